/-
  InboxOnce: for every list of steps the call answers true, and the argument reads as before: what was put is taken once, of one row in its order, and no usual one while there is an urgent one. No condition.
-/
import Derived.Test.YtocainggkdmojaaIRow
namespace Go.Proofs.Ytocainggkdmojaa
open Go.Conc Go.ChangeShapes Go.WideShapes Go.ChangeAt Go.RowKit Go.Deep
open Go.ChangeMaps (open_string)
set_option maxHeartbeats 1000000 in
theorem texts_same (u v : Value) (l : List ByteArray) (w : World) (hu : AtW ES w u l) (hv : AtW ES w v l) : Calls Try.prog 14 #[u, v] w fun e w' => e = .returned (.bool true) ∧ Below w.heap.size w w' := by
  obtain ⟨ao, ca, rfl, hm, hx⟩ := hu.open
  obtain ⟨bo, cb, rfl, -, hy⟩ := hv.open
  unfold maxLen at hm
  obtain ⟨n, hn⟩ : ∃ n, l.length = n := ⟨_, rfl⟩
  rw [hn] at hm ⊢
  have HX : Hid (∀ wr, Below w.heap.size w wr → ∀ j, j < n → ∃ y b off b' off', ao = some ⟨b, off, none⟩ ∧ bo = some ⟨b', off', none⟩ ∧ wr.cell? ⟨b, off + j, none⟩ = some (.string y) ∧ wr.cell? ⟨b', off' + j, none⟩ = some (.string y)) := fun wr hb j hj => by
    have hj' : j < l.length := by omega
    obtain ⟨b, off, e1, -, h1, c1⟩ := hx j l[j] (List.getElem?_eq_getElem hj')
    obtain ⟨b', off', e2, -, h2, c2⟩ := hy j l[j] (List.getElem?_eq_getElem hj')
    have d1 := c1 0 _ rfl
    have d2 := c2 0 _ rfl
    simp only [ES, Nat.mul_one, Nat.add_zero] at d1 d2
    exact ⟨l[j], b, off, b', off', e1, e2, (hb.cell (p := ⟨b, off + j, none⟩) h1).trans d1, (hb.cell (p := ⟨b', off' + j, none⟩) h2).trans d2⟩
  clear hx hy hu hv hn
  go_enter Try.func14, Try.ntmps14
  go_wp2
  go_loopw [8] (fun i wr => ∃ k : Nat, k ≤ n ∧ i = .int .i64 k ∧ Hid (Below w.heap.size w wr)) (fun i _ => n - (intOf i).toNat)
  case atStart => exact ⟨0, Nat.zero_le _, rfl, Below.refl _ _⟩
  case round =>
    obtain ⟨k, hk, rfl, HB⟩ := hrel
    by_cases hlt : k < n
    · obtain ⟨y, b, off, b', off', rfl, rfl, c0, c1⟩ := HX.out wr HB.out k hlt
      have hg : decide ((n : Int) ≤ (k : Int)) = false := by simp; omega
      have hlt' : (k : Int) < (n : Int) := by omega
      have hyy : (y.toList == y.toList) = true := beq_self_eq_true _
      go_wp2
      go_quiet (fail)
      go_wp2
      go_roundw
      case rel => exact ⟨k + 1, by omega, by go_num, Go.below_drewN HB.out _⟩
      case measure => simp [intOf]; omega
    · obtain rfl : k = n := by omega
      go_wp2
      go_ret
      exact ⟨rfl, HB.out⟩
theorem Oth.keep {w w' : World} {B cu cn room X : Nat} {cl : Bool} {U N : List ByteArray} {cs : Array Value} {T : TypeId} (ho : Oth B cu cn w w') (hi : In w B cu cn room cl U N) (hX : w.heap[X]? = some (.cells cs T)) (hT : T ≠ 49) : w'.heap[X]? = some (.cells cs T) := by
  obtain ⟨s1, r1, e1⟩ := hi.u
  obtain ⟨s2, r2, e2⟩ := hi.n
  refine (ho.block X (Array.getElem?_eq_some_iff.1 hX).1 ?_ ?_ ?_).trans hX
  · rintro rfl; rw [hi.bx] at hX; simp at hX; exact hT hX.2.symm
  · rintro rfl; rw [e1] at hX; simp at hX
  · rintro rfl; rw [e2] at hX; simp at hX
/-- What holds at each round's head. -/
structure Oc (w0 : World) (B cu cn k : Nat) (a b : Value) (U N : List ByteArray) (w : World) : Prop where
  inb : In w B cu cn 256 false U N
  tw : Tw w w0.heap.size a b U N
  bel : Below w0.heap.size w0 w
  len : U.length + N.length ≤ k
  lo : w0.heap.size ≤ B ∧ w0.heap.size ≤ cu ∧ w0.heap.size ≤ cn
theorem Oc.up {w0 w w' : World} {B cu cn k : Nat} {a b : Value} {U N : List ByteArray} (h : Oc w0 B cu cn k a b U N w) (hb : Below w.heap.size w w') : Oc w0 B cu cn k a b U N w' := ⟨h.inb.below hb, h.tw.up hb, h.bel.trans (hb.mono h.bel.size), h.len, h.lo⟩
theorem grown_below {w0 w w' : World} {v : Value} {ls : List ByteArray} (hr : Ro w w0.heap.size v ls) (h0 : Below w0.heap.size w0 w) (hg : w.grownBy w' v.ownBlock) : Below w0.heap.size w0 w' :=
  ⟨hg.os.trans h0.os, hg.tape.trans h0.tape, hg.output.trans h0.output, Nat.le_trans h0.size hg.size, fun k hk => (hg.block k (Nat.lt_of_lt_of_le hk h0.size) (fun e => by have := (hr.lt k e.symm).1; omega)).trans (h0.block k hk)⟩
theorem at_take {w : World} {p : Option Addr} {n c : Nat} {U N : List ByteArray} (h : AtW ES w (.slice p n c) (U ++ N)) : AtW ES w (.slice p U.length c) U := by
  rcases h with ⟨ao, cap, e, h0⟩ | ⟨b, off, cap, e, -, hb, hp, hc, hm, hx⟩
  · obtain ⟨rfl, rfl⟩ := List.append_eq_nil_iff.1 h0
    exact .inl ⟨_, _, rfl, rfl⟩
  · simp only [Value.slice.injEq] at e
    obtain ⟨rfl, -, rfl⟩ := e
    by_cases hu : 0 < U.length
    · rw [List.length_append] at hc
      refine .inr ⟨b, off, c, rfl, trivial, hb, hu, by omega, hm, fun j u hj => hx j u ?_⟩
      rw [flat_eq] at hj ⊢
      have hlt := (List.getElem?_eq_some_iff.1 hj).1
      rw [show sc (U ++ N) = sc U ++ sc N from by simp [sc], List.getElem?_append_left hlt]
      exact hj
    · obtain rfl : U = [] := List.eq_nil_of_length_eq_zero (by omega)
      exact .inl ⟨_, _, rfl, rfl⟩
theorem at_drop {w : World} {b off n c : Nat} {U N : List ByteArray} (h : AtW ES w (.slice (some ⟨b, off, none⟩) n c) (U ++ N)) : AtW ES w (.slice (some ⟨b, off + U.length, none⟩) N.length (c - U.length)) N := by
  by_cases hn : 0 < N.length
  · rcases h with ⟨ao, cap, e, h0⟩ | ⟨b', off', cap, e, -, hb, hp, hc, hm, hx⟩
    · obtain ⟨rfl, rfl⟩ := List.append_eq_nil_iff.1 h0
      exact .inl ⟨_, _, rfl, rfl⟩
    · simp only [Value.slice.injEq, Option.some.injEq, Addr.mk.injEq, and_true] at e
      obtain ⟨⟨rfl, rfl⟩, -, rfl⟩ := e
      rw [List.length_append] at hc
      refine .inr ⟨b, off + U.length, c - U.length, rfl, trivial, hb, hn, by omega, by omega, fun j u hj => ?_⟩
      rw [Nat.add_assoc]
      refine hx (U.length + j) u ?_
      rw [flat_eq] at hj ⊢
      rw [show sc (U ++ N) = sc U ++ sc N from by simp [sc], List.getElem?_append_right (by simp [sc])]
      simpa [sc] using hj
  · obtain rfl : N = [] := List.eq_nil_of_length_eq_zero (by omega)
    exact .inl ⟨_, _, rfl, rfl⟩
abbrev BX (t : Int) (s : ByteArray) : Obj := .cells #[.int .i64 t, .string s] 32
theorem bx_of {w : World} {A : Nat} {t : Int} {s : ByteArray} (h : w.heap[A]? = some (BX t s)) : w.cell? ⟨A, 0, none⟩ = some (.int .i64 t) ∧ w.cell? ⟨A, 1, none⟩ = some (.string s) := by
  constructor <;> simp [World.cell?, h]
set_option maxRecDepth 100000 in
set_option maxHeartbeats 4000000 in
theorem once_any (v : Value) (l : List (Int × ByteArray)) (w : World) (hv : AtW EP w v l) : Calls Try.prog 4 #[v] w fun e w' => e = .returned (.bool true) ∧ Below w.heap.size w w' := by
  obtain ⟨ao, ca, rfl, hm, hx⟩ := hv.open
  unfold maxLen at hm
  obtain ⟨n, hn⟩ : ∃ n, l.length = n := ⟨_, rfl⟩
  rw [hn] at hm ⊢
  have HX : Hid (∀ wr, Below w.heap.size w wr → ∀ j, j < n → ∃ t s b off, ao = some ⟨b, off, none⟩ ∧ wr.cell? ⟨b, off + j * 2, none⟩ = some (.int .i64 t) ∧ wr.cell? ⟨b, off + j * 2 + 1, none⟩ = some (.string s)) := fun wr hb j hj => by
    have hj' : j < l.length := by omega
    obtain ⟨b, off, e1, -, h1, c1⟩ := hx j l[j] (List.getElem?_eq_getElem hj')
    exact ⟨_, _, b, off, e1, (hb.cell (p := ⟨b, off + j * 2, none⟩) h1).trans (c1 0 _ rfl), (hb.cell (p := ⟨b, off + j * 2 + 1, none⟩) h1).trans (c1 1 _ rfl)⟩
  obtain ⟨B, hB⟩ : ∃ B, w.heap.size + 2 = B := ⟨_, rfl⟩
  have HN : Hid (Calls Try.prog 6 #[.int .i64 256] w fun e w' => ∃ cu cn, e = .returned (.tuple #[.pointer (some ⟨B, 0, none⟩), .int .i64 0]) ∧ In w' B cu cn 256 false [] [] ∧ w.heap.size ≤ cu ∧ w.heap.size ≤ cn ∧ Below w.heap.size w w') := by rw [← hB]; exact new_ok 256 w (by decide) (by decide)
  have HBW : Hid (w.heap.size ≤ B) := by show _ ≤ _; omega
  obtain ⟨i0, hi, hz0, hz1, hz2⟩ := info_parts infoSS
  clear hB hn hx hv
  go_enter Try.func4, Try.ntmps4
  go_wp2_with fail
  refine HN.out.mono ?_
  rintro e w1 ⟨cu, cn, rfl, hin, hu, hnn, hb⟩
  have H1 : Hid (Oc w B cu cn 0 (.slice none 0 0) (.slice none 0 0) [] [] w1) := ⟨hin, Tw.nil _ _, hb, Nat.le_refl _, HBW.out, hu, hnn⟩
  clear hin hu hnn hb HN
  by_cases h200 : (200 : Int) < (n : Int)
  · go_wp2_with fail
    refine (two_any _).mono ?_
    rintro e w2 ⟨rfl, hb2⟩
    have HB2 : Hid (Below w.heap.size w w2) := H1.out.bel.trans (hb2.mono H1.out.bel.size)
    clear hb2
    go_wp2
    go_ret
    exact ⟨rfl, HB2.out⟩
  have hn200 : n ≤ 200 := by omega
  go_wp2
  go_loopw [5, 6, 39] (fun a b i wr => ∃ (k : Nat) (U N : List ByteArray) (p1 : Option Addr) (c1 : Nat) (p2 : Option Addr) (c2 : Nat), i = .int .i64 k ∧ k ≤ n ∧ a = .slice p1 U.length c1 ∧ b = .slice p2 N.length c2 ∧ Hid (Oc w B cu cn k (.slice p1 U.length c1) (.slice p2 N.length c2) U N wr)) (fun _ _ i _ => n - (intOf i).toNat)
  case atStart => exact ⟨0, [], [], none, 0, none, 0, rfl, Nat.zero_le _, rfl, rfl, H1.out⟩
  case round =>
    obtain ⟨k, U, N, p1, c1, p2, c2, rfl, hk, rfl, rfl, HR⟩ := hrel
    clear H1
    by_cases hlt : k < n
    · obtain ⟨t, s, b, off, rfl, f0, f1⟩ := HX.out wr HR.out.bel k hlt
      have HU : Hid (Oc w B cu cn k (.slice p1 U.length c1) (.slice p2 N.length c2) U N (wr.alloc (BX t s))) := HR.out.up (below_alloc _ _)
      have HBX : Hid ((wr.alloc (BX t s)).heap[wr.heap.size]? = some (BX t s)) := heap_alloc_new _ _
      obtain ⟨x0, x1⟩ := bx_of HBX.out
      have hlt' : (k : Int) < (n : Int) := by omega
      have HLN : Hid (U.length ≤ 200 ∧ N.length ≤ 200) := by have := HR.out.len; exact ⟨by omega, by omega⟩
      by_cases ht0 : t = 0
      · subst ht0
        have HP0 : Calls Try.prog 11 #[.pointer (some ⟨B, 0, none⟩), .bool false, .string s] (wr.alloc (BX 0 s)) fun e w' => e = .returned (.int .i64 0) ∧ In w' B cu cn 256 false U (N ++ [s]) ∧ Oth B cu cn (wr.alloc (BX 0 s)) w' := by
          have := put_any B cu cn 256 false false U N s _ HU.out.inb
          have hl : N.length < 256 := by have := HLN.out; omega
          simpa [putE, putL, hl] using this
        have HP : Hid (Calls Try.prog 11 #[.pointer (some ⟨B, 0, none⟩), .bool false, .string s] (wr.alloc (BX 0 s)) fun e w' => e = .returned (.int .i64 0) ∧ In w' B cu cn 256 false U (N ++ [s]) ∧ Oth B cu cn (wr.alloc (BX 0 s)) w') := HP0
        clear HP0
        go_wp2_with fail
        refine HP.out.mono ?_
        rintro e w2 ⟨rfl, hi2, ho2⟩
        obtain ⟨y0, y1⟩ := bx_of (ho2.keep HU.out.inb HBX.out (by decide))
        have HQ : Hid (In w2 B cu cn 256 false U (N ++ [s]) ∧ Tw w2 w.heap.size (.slice p1 U.length c1) (.slice p2 N.length c2) U N ∧ Below w.heap.size w w2) := ⟨hi2, HU.out.tw.oth HU.out.inb ho2, ho2.below HU.out.bel HU.out.bel.size HU.out.lo.1 HU.out.lo.2.1 HU.out.lo.2.2⟩
        have HO : Hid (AtW ES (w2.alloc (.cells #[.string s] 9)) (.slice (some ⟨w2.heap.size, 0, none⟩) 1 1) [s]) := at_oneS (heap_alloc_new _ _)
        have M1 : Hid (In (w2.alloc (.cells #[.string s] 9)) B cu cn 256 false U (N ++ [s]) ∧ Tw (w2.alloc (.cells #[.string s] 9)) w.heap.size (.slice p1 U.length c1) (.slice p2 N.length c2) U N ∧ Below w.heap.size w (w2.alloc (.cells #[.string s] 9))) := ⟨HQ.out.1.below (below_alloc _ _), HQ.out.2.1.up (below_alloc _ _), HQ.out.2.2.trans ((below_alloc _ _).mono HQ.out.2.2.size)⟩
        clear hi2 ho2 x0 x1
        go_wp2_with (at_builtin; refine wpList_ro _ rfl _ _ 36 rfl w.heap.size i0 _ 16 Try.underlying36 hi hz0 hz1 hz2 rfl _ N (by rfl) M1.out.2.1.rn _ [s] (by rfl) HO.out (by simp) (by have := HLN.out.2; unfold maxLen; simp only [List.length_cons, List.length_nil]; omega) (by have := HLN.out.2; simp only [List.length_cons, List.length_nil]; omega) M1.out.2.2.size ?_; intro v9 w9 hrow9 hg9 hloc9; have M9 : Hid (In w9 B cu cn 256 false U (N ++ [s]) ∧ Tw w9 w.heap.size (.slice p1 U.length c1) v9 U (N ++ [s]) ∧ Below w.heap.size w w9) := ⟨M1.out.1.ro M1.out.2.1.rn hg9, (M1.out.2.1.swap.app hrow9 hg9 hloc9).swap, grown_below M1.out.2.1.rn M1.out.2.2 hg9⟩; obtain ⟨p9, c9, rfl⟩ := hrow9.slice; clear hrow9 hg9 hloc9)
        go_roundw
        case rel => exact ⟨k + 1, U, N ++ [s], p1, c1, p9, c9, by go_num, by omega, rfl, by simp, ⟨M9.out.1, M9.out.2.1, M9.out.2.2, by have := HU.out.len; simp only [List.length_append, List.length_singleton]; omega, HU.out.lo⟩⟩
        case measure => simp [intOf]; omega
      have hf0 : (t == 0) = false := by simpa using ht0
      by_cases ht1 : t = 1
      · subst ht1
        have HP0 : Calls Try.prog 11 #[.pointer (some ⟨B, 0, none⟩), .bool true, .string s] (wr.alloc (BX 1 s)) fun e w' => e = .returned (.int .i64 0) ∧ In w' B cu cn 256 false (U ++ [s]) N ∧ Oth B cu cn (wr.alloc (BX 1 s)) w' := by
          have := put_any B cu cn 256 false true U N s _ HU.out.inb
          have hl : U.length < 256 := by have := HLN.out; omega
          simpa [putE, putL, hl] using this
        have HP : Hid (Calls Try.prog 11 #[.pointer (some ⟨B, 0, none⟩), .bool true, .string s] (wr.alloc (BX 1 s)) fun e w' => e = .returned (.int .i64 0) ∧ In w' B cu cn 256 false (U ++ [s]) N ∧ Oth B cu cn (wr.alloc (BX 1 s)) w') := HP0
        clear HP0
        go_wp2_with fail
        refine HP.out.mono ?_
        rintro e w2 ⟨rfl, hi2, ho2⟩
        obtain ⟨y0, y1⟩ := bx_of (ho2.keep HU.out.inb HBX.out (by decide))
        have HQ : Hid (In w2 B cu cn 256 false (U ++ [s]) N ∧ Tw w2 w.heap.size (.slice p1 U.length c1) (.slice p2 N.length c2) U N ∧ Below w.heap.size w w2) := ⟨hi2, HU.out.tw.oth HU.out.inb ho2, ho2.below HU.out.bel HU.out.bel.size HU.out.lo.1 HU.out.lo.2.1 HU.out.lo.2.2⟩
        have HO : Hid (AtW ES (w2.alloc (.cells #[.string s] 9)) (.slice (some ⟨w2.heap.size, 0, none⟩) 1 1) [s]) := at_oneS (heap_alloc_new _ _)
        have M1 : Hid (In (w2.alloc (.cells #[.string s] 9)) B cu cn 256 false (U ++ [s]) N ∧ Tw (w2.alloc (.cells #[.string s] 9)) w.heap.size (.slice p1 U.length c1) (.slice p2 N.length c2) U N ∧ Below w.heap.size w (w2.alloc (.cells #[.string s] 9))) := ⟨HQ.out.1.below (below_alloc _ _), HQ.out.2.1.up (below_alloc _ _), HQ.out.2.2.trans ((below_alloc _ _).mono HQ.out.2.2.size)⟩
        clear hi2 ho2 x0 x1
        go_wp2_with (at_builtin; refine wpList_ro _ rfl _ _ 36 rfl w.heap.size i0 _ 16 Try.underlying36 hi hz0 hz1 hz2 rfl _ U (by rfl) M1.out.2.1.ru _ [s] (by rfl) HO.out (by simp) (by have := HLN.out.1; unfold maxLen; simp only [List.length_cons, List.length_nil]; omega) (by have := HLN.out.1; simp only [List.length_cons, List.length_nil]; omega) M1.out.2.2.size ?_; intro v9 w9 hrow9 hg9 hloc9; have M9 : Hid (In w9 B cu cn 256 false (U ++ [s]) N ∧ Tw w9 w.heap.size v9 (.slice p2 N.length c2) (U ++ [s]) N ∧ Below w.heap.size w w9) := ⟨M1.out.1.ro M1.out.2.1.ru hg9, M1.out.2.1.app hrow9 hg9 hloc9, grown_below M1.out.2.1.ru M1.out.2.2 hg9⟩; obtain ⟨p9, c9, rfl⟩ := hrow9.slice; clear hrow9 hg9 hloc9)
        go_roundw
        case rel => exact ⟨k + 1, U ++ [s], N, p9, c9, p2, c2, by go_num, by omega, by simp, rfl, ⟨M9.out.1, M9.out.2.1, M9.out.2.2, by have := HU.out.len; simp only [List.length_append, List.length_singleton]; omega, HU.out.lo⟩⟩
        case measure => simp [intOf]; omega
      have hf1 : (t == 1) = false := by simpa using ht1
      clear ht0 ht1
      cases U with
      | cons x U =>
        have HT : Hid (Calls Try.prog 12 #[.pointer (some ⟨B, 0, none⟩)] (wr.alloc (BX t s)) fun e w' => e = .returned (.tuple #[.string x, .bool true, .int .i64 0]) ∧ In w' B cu cn 256 false U N ∧ Oth B cu cn (wr.alloc (BX t s)) w') := take_any B cu cn 256 false (x :: U) N _ HU.out.inb
        obtain ⟨g, o, cc, hsl, -, -⟩ := HU.out.tw.ru.cell (i := 0) (x := x) rfl
        simp only [Value.slice.injEq] at hsl
        obtain ⟨rfl, -, -⟩ := hsl
        go_wp2_with fail
        refine HT.out.mono ?_
        rintro e w2 ⟨rfl, hi2, ho2⟩
        have htw := HU.out.tw.oth HU.out.inb ho2
        obtain ⟨g', o', cc', hsl, -, hcell⟩ := htw.ru.cell (i := 0) (x := x) rfl
        simp only [Value.slice.injEq, Option.some.injEq, Addr.mk.injEq, and_true] at hsl
        obtain ⟨⟨rfl, rfl⟩, -, -⟩ := hsl
        obtain ⟨-, hc1, hc2, htl⟩ := htw.tail
        rw [Nat.add_zero] at hcell
        have HQ : Hid (Oc w B cu cn (k + 1) (.slice (if c1 = 1 then some ⟨g, o, none⟩ else some ⟨g, o + 1, none⟩) U.length (c1 - 1)) (.slice p2 N.length c2) U N w2) := ⟨hi2, htl, ho2.below HU.out.bel HU.out.bel.size HU.out.lo.1 HU.out.lo.2.1 HU.out.lo.2.2, by have := HU.out.len; simp only [List.length_cons] at this; omega, HU.out.lo⟩
        have hxx : (x.toList == x.toList) = true := beq_self_eq_true _
        have hul : ((((U.length + 1 : Nat)) : Int) == 0) = false := by rw [beq_eq_false_iff_ne]; omega
        have hul2 : (((x :: U).length : Int) == 0) = false := by rw [beq_eq_false_iff_ne]; simp only [List.length_cons]; omega
        simp only [List.length_cons] at hc2 ⊢
        clear hi2 ho2 htw htl x0 x1
        go_wp2
        go_roundw
        case rel => exact ⟨k + 1, U, N, if c1 = 1 then some ⟨g, o, none⟩ else some ⟨g, o + 1, none⟩, c1 - 1, p2, c2, by go_num, by omega, by first | rfl | simp, rfl, HQ.out⟩
        case measure => simp [intOf]; omega
      | nil =>
        cases N with
        | cons x N =>
          have HT : Hid (Calls Try.prog 12 #[.pointer (some ⟨B, 0, none⟩)] (wr.alloc (BX t s)) fun e w' => e = .returned (.tuple #[.string x, .bool false, .int .i64 0]) ∧ In w' B cu cn 256 false [] N ∧ Oth B cu cn (wr.alloc (BX t s)) w') := take_any B cu cn 256 false [] (x :: N) _ HU.out.inb
          obtain ⟨g, o, cc, hsl, -, -⟩ := HU.out.tw.rn.cell (i := 0) (x := x) rfl
          simp only [Value.slice.injEq] at hsl
          obtain ⟨rfl, -, -⟩ := hsl
          go_wp2_with fail
          refine HT.out.mono ?_
          rintro e w2 ⟨rfl, hi2, ho2⟩
          have htw := HU.out.tw.oth HU.out.inb ho2
          obtain ⟨g', o', cc', hsl, -, hcell⟩ := htw.rn.cell (i := 0) (x := x) rfl
          simp only [Value.slice.injEq, Option.some.injEq, Addr.mk.injEq, and_true] at hsl
          obtain ⟨⟨rfl, rfl⟩, -, -⟩ := hsl
          obtain ⟨-, hc1, hc2, htl⟩ := htw.swap.tail
          rw [Nat.add_zero] at hcell
          have HQ : Hid (Oc w B cu cn (k + 1) (.slice p1 0 c1) (.slice (if c2 = 1 then some ⟨g, o, none⟩ else some ⟨g, o + 1, none⟩) N.length (c2 - 1)) [] N w2) := ⟨hi2, htl.swap, ho2.below HU.out.bel HU.out.bel.size HU.out.lo.1 HU.out.lo.2.1 HU.out.lo.2.2, by have := HU.out.len; simp only [List.length_cons] at this; simp only [List.length_nil] at this ⊢; omega, HU.out.lo⟩
          have hxx : (x.toList == x.toList) = true := beq_self_eq_true _
          have hul : ((((N.length + 1 : Nat)) : Int) == 0) = false := by rw [beq_eq_false_iff_ne]; omega
          simp only [List.length_cons, List.length_nil] at hc2 ⊢
          clear hi2 ho2 htw htl x0 x1
          go_wp2
          go_roundw
          case rel => exact ⟨k + 1, [], N, p1, c1, if c2 = 1 then some ⟨g, o, none⟩ else some ⟨g, o + 1, none⟩, c2 - 1, by go_num, by omega, rfl, by first | rfl | simp, HQ.out⟩
          case measure => simp [intOf]; omega
        | nil =>
          have HT : Hid (Calls Try.prog 12 #[.pointer (some ⟨B, 0, none⟩)] (wr.alloc (BX t s)) fun e w' => e = .returned (.tuple #[.string ⟨#[]⟩, .bool false, .int .i64 6]) ∧ In w' B cu cn 256 false [] [] ∧ Oth B cu cn (wr.alloc (BX t s)) w') := take_any B cu cn 256 false [] [] _ HU.out.inb
          go_wp2_with fail
          refine HT.out.mono ?_
          rintro e w2 ⟨rfl, hi2, ho2⟩
          have HQ : Hid (Oc w B cu cn (k + 1) (.slice p1 0 c1) (.slice p2 0 c2) [] [] w2) := ⟨hi2, HU.out.tw.oth HU.out.inb ho2, ho2.below HU.out.bel HU.out.bel.size HU.out.lo.1 HU.out.lo.2.1 HU.out.lo.2.2, by simp, HU.out.lo⟩
          simp only [List.length_nil]
          clear hi2 ho2 x0 x1
          go_wp2
          go_roundw
          case rel => exact ⟨k + 1, [], [], p1, c1, p2, c2, by go_num, by omega, rfl, rfl, HQ.out⟩
          case measure => simp [intOf]; omega
    · obtain rfl : k = n := by omega
      have HLN : Hid (U.length ≤ 200 ∧ N.length ≤ 200) := by have := HR.out.len; exact ⟨by omega, by omega⟩
      go_wp2_with fail
      refine (drain_any B cu cn 256 false U N _ HR.out.inb (by have := HR.out.len; omega)).mono ?_
      rintro e w2 ⟨pq, nq, cq, rfl, hrow, hi2, ho2⟩
      have HTW : Hid (Tw w2 w.heap.size (.slice p1 U.length c1) (.slice p2 N.length c2) U N) := HR.out.tw.oth HR.out.inb ho2
      have HB2 : Hid (Below w.heap.size w w2) := ho2.below HR.out.bel HR.out.bel.size HR.out.lo.1 HR.out.lo.2.1 HR.out.lo.2.2
      have hat : AtW ES w2 (.slice pq nq cq) (U ++ N) := hrow.at.imp fun _ _ _ => trivial
      have hUl : (U.length : Int) ≤ 200 := by have := HLN.out.1; omega
      have hNl : (N.length : Int) ≤ 200 := by have := HLN.out.2; omega
      rcases hrow with ⟨hnil, happ⟩ | ⟨g, cap, cur, hsl, -, -, hc1, hc2, -, -⟩
      · obtain ⟨rfl, rfl⟩ := List.append_eq_nil_iff.1 happ
        simp only [Value.slice.injEq] at hnil
        obtain ⟨rfl, rfl, rfl⟩ := hnil
        simp only [List.length_nil]
        have HN0 : Hid (AtW ES w2 (.slice none 0 0) []) := .inl ⟨_, _, rfl, rfl⟩
        clear hat happ hi2 ho2
        go_wp2_with fail
        refine (texts_same _ _ [] _ HN0.out HTW.out.ru.at).mono ?_
        rintro e w3 ⟨rfl, hb3⟩
        have HB3 : Hid (Below w2.heap.size w2 w3) := hb3
        clear hb3
        go_wp2_with fail
        refine (texts_same _ _ [] _ (HN0.out.up HB3.out) (HTW.out.rn.at.up HB3.out)).mono ?_
        rintro e w4 ⟨rfl, hb4⟩
        have HB4 : Hid (Below w.heap.size w w4) := HB2.out.trans ((bup HB3.out hb4).mono HB2.out.size)
        clear hb4
        go_wp2_with fail
        refine (two_any _).mono ?_
        rintro e w5 ⟨rfl, hb5⟩
        have HB5 : Hid (Below w.heap.size w w5) := HB4.out.trans (hb5.mono HB4.out.size)
        clear hb5
        go_wp2
        go_ret
        exact ⟨rfl, HB5.out⟩
      · simp only [Value.slice.injEq] at hsl
        obtain ⟨rfl, rfl, rfl⟩ := hsl
        have H1 : Hid (AtW ES w2 (.slice (some ⟨g, 0, none⟩) U.length cq) U) := at_take hat
        have H2 : Hid (AtW ES w2 (.slice (some ⟨g, U.length, none⟩) N.length (cq - U.length)) N) := by have := at_drop hat; rwa [Nat.zero_add] at this
        rw [List.length_append] at hc1 ⊢
        have hcI : (U.length : Int) ≤ (cq : Int) := by omega
        have hcI2 : (U.length : Int) + (N.length : Int) ≤ (cq : Int) := by omega
        have hsub : U.length + N.length - U.length = N.length := by omega
        have hwr : IntKind.i64.wrap ((U.length : Int) + (N.length : Int)) = (U.length : Int) + (N.length : Int) := wrap_small _ (by omega) (by omega)
        have hpush : ((U.length + N.length : Nat) : Int) = (U.length : Int) + (N.length : Int) := by push_cast; rfl
        clear hat hi2 ho2
        go_wp2_with fail
        refine (texts_same _ _ U _ H1.out HTW.out.ru.at).mono ?_
        rintro e w3 ⟨rfl, hb3⟩
        have HB3 : Hid (Below w2.heap.size w2 w3) := hb3
        clear hb3
        by_cases hcu : cq = U.length
        · obtain rfl : N = [] := List.eq_nil_of_length_eq_zero (by omega)
          simp only [List.length_nil]
          go_wp2_with fail
          refine (texts_same _ _ [] _ (.inl ⟨_, _, rfl, rfl⟩) (HTW.out.rn.at.up HB3.out)).mono ?_
          rintro e w4 ⟨rfl, hb4⟩
          have HB4 : Hid (Below w.heap.size w w4) := HB2.out.trans ((bup HB3.out hb4).mono HB2.out.size)
          clear hb4
          go_wp2_with fail
          refine (two_any _).mono ?_
          rintro e w5 ⟨rfl, hb5⟩
          have HB5 : Hid (Below w.heap.size w w5) := HB4.out.trans (hb5.mono HB4.out.size)
          clear hb5
          go_wp2
          go_ret
          exact ⟨rfl, HB5.out⟩
        · have hcu2 : ¬ U.length = cq := fun h => hcu h.symm
          have hcu3 : ¬ (cq : Int) = (U.length : Int) := by omega
          go_wp2_with fail
          refine (texts_same _ _ N _ (H2.out.up HB3.out) (HTW.out.rn.at.up HB3.out)).mono ?_
          rintro e w4 ⟨rfl, hb4⟩
          have HB4 : Hid (Below w.heap.size w w4) := HB2.out.trans ((bup HB3.out hb4).mono HB2.out.size)
          clear hb4
          go_wp2_with fail
          refine (two_any _).mono ?_
          rintro e w5 ⟨rfl, hb5⟩
          have HB5 : Hid (Below w.heap.size w w5) := HB4.out.trans (hb5.mono HB4.out.size)
          clear hb5
          go_wp2
          go_ret
          exact ⟨rfl, HB5.out⟩

set_option maxRecDepth 100000 in
theorem inboxOnce_lifted (os : Os) (started : os.Started) (H : Type) (enc : TypeId × Value → H) :
    ReturnsInHanded {} Try.checked os 4 .any (Rows.inboxOnceSpec.pre6 enc Try.prog Try.f4 Rows.inboxOnceRow.domain false) (Rows.inboxOnceSpec.post enc Try.prog Try.f4 false true false false) := by
  refine returnsInHanded_of_change (C := Try.checked) own started (by kernel_rfl) Try.func4
    (ChangeSpec.witness6 (enc := enc) (C := Try.checked) false ⟨#[], #[.slice none 0 0], []⟩ 8 (by kernel_rfl) (by kernel_rfl) (by kernel_rfl) (by kernel_rfl)) ?_
  intro W base args ds gs before hval0 hW hcnd _
  have hval : ∀ (j : Nat) t v, Try.f4.params[j]? = some t → args[j]? = some v → Value.okWide Try.prog W .any base t v := hval0
  have hW' := hW
  obtain ⟨p, q, hA0, hV, rfl, hfz, hnd⟩ := hW
  have hA : DataW.TrodAll enc Try.prog W 0 (fun _ => true) true Try.f4.params.toList args.toList ds p := hA0
  rw [Try.params4] at hA hval
  obtain ⟨v0, d0, rfl, rfl, h0⟩ := trodAll_one hA
  obtain ⟨rfl, rfl⟩ := trodVars_none hV
  obtain ⟨x0, hl0⟩ := open_steps (hval 0 22 v0 rfl rfl) h0
  refine (once_any v0 x0 W hl0).mono fun e W' ⟨he, hg⟩ => ⟨_, he, ?_⟩
  exact Law.post laidOut (by kernel_rfl) rfl Try.underlying4 hW' rfl rfl hg

theorem inboxOnce_holds : Rows.InboxOnceSaid :=
  OpenClaim.holds_of_wide 4 Try.f4 rfl rfl rfl rfl rfl rfl rfl ⟨rfl, rfl, rfl, rfl, rfl⟩ rfl rfl rfl rfl rfl (by kernel_rfl) Try.func4 (by kernel_rfl)
    (of_decide_eq_true (by kernel_rfl)) (by unfold Func.isWrapper; first | (rw [if_pos (by decide +kernel)]; kernel_rfl) | (rw [if_neg (by decide +kernel)]; exact ⟨rfl, rfl⟩))
    (fun os started H enc _ => inboxOnce_lifted os started H enc)
#print axioms inboxOnce_holds
end Go.Proofs.Ytocainggkdmojaa
