/-
  The document's inbox: New, Put, Take, Drain.
-/
import Derived.Test.YtocainggkdmojaaOnce
namespace Go.Proofs.Ytocainggkdmojaa
open Go.Conc Go.RowKit Go.ChangeShapes Go.WideShapes Go.ChangeAt Go.Deep
abbrev BR (r : Int) (a b : Value) (cl : Bool) : Obj := .cells #[.int .i64 r, a, b, .bool cl] 38
/-- Older blocks stay, and so does every block that is neither a row of texts nor an inbox of the document's. -/
structure Rk (n : Nat) (w w' : World) : Prop where
  bel : Below n w w'
  kind : ∀ (k : Nat) (o : Obj), w.heap[k]? = some o → (∀ cs z, o ≠ .cells cs 9 z) → (∀ cs z, o ≠ .cells cs 38 z) → w'.heap[k]? = some o
theorem Rk.refl (n : Nat) (w : World) : Rk n w w := ⟨Below.refl _ _, fun _ _ h _ _ => h⟩
theorem Rk.trans {n : Nat} {w w1 w2 : World} (h : Rk n w w1) (k : Rk n w1 w2) : Rk n w w2 := ⟨h.bel.trans k.bel, fun q o hq a b => k.kind q o (h.kind q o hq a b) a b⟩
theorem Rk.of {n : Nat} {w w' : World} (h : Below w.heap.size w w') (hn : n ≤ w.heap.size) : Rk n w w' := ⟨h.mono hn, fun k _ hk _ _ => (h.block k (Array.getElem?_eq_some_iff.1 hk).1).trans hk⟩
theorem In.rk {n : Nat} {w w' : World} {B cu cn room : Nat} {cl : Bool} {U N : List ByteArray} (h : In w B cu cn room cl U N) (k : Rk n w w') : In w' B cu cn room cl U N := by
  obtain ⟨s1, r1, e1⟩ := h.u
  obtain ⟨s2, r2, e2⟩ := h.n
  exact ⟨k.kind _ _ h.bx (fun _ _ e => by simp at e) (fun _ _ e => by simp at e), ⟨s1, r1, k.kind _ _ e1 (fun _ _ e => by simp at e) (fun _ _ e => by simp at e)⟩, ⟨s2, r2, k.kind _ _ e2 (fun _ _ e => by simp at e) (fun _ _ e => by simp at e)⟩, h.ne⟩
/-- The document's inbox, in memory. -/
structure Rf (n : Nat) (w : World) (A : Nat) (r : Int) (cl : Bool) (a b : Value) (U N : List ByteArray) : Prop where
  bx : w.heap[A]? = some (BR r a b cl)
  tw : Tw w n a b U N
  lo : n ≤ A
  hn : n ≤ w.heap.size
theorem Rf.cells {n : Nat} {w : World} {A : Nat} {r : Int} {cl : Bool} {a b : Value} {U N : List ByteArray} (h : Rf n w A r cl a b U N) : w.cell? ⟨A, 0, none⟩ = some (.int .i64 r) ∧ w.cell? ⟨A, 1, none⟩ = some a ∧ w.cell? ⟨A, 2, none⟩ = some b ∧ w.cell? ⟨A, 3, none⟩ = some (.bool cl) := by
  refine ⟨?_, ?_, ?_, ?_⟩ <;> simp [World.cell?, h.bx]
theorem Rf.up {n : Nat} {w w' : World} {A : Nat} {r : Int} {cl : Bool} {a b : Value} {U N : List ByteArray} (h : Rf n w A r cl a b U N) (hb : Below w.heap.size w w') : Rf n w' A r cl a b U N := ⟨(hb.block A (Array.getElem?_eq_some_iff.1 h.bx).1).trans h.bx, h.tw.up hb, h.lo, Nat.le_trans h.hn hb.size⟩
theorem Rf.oth {n : Nat} {w w' : World} {A B cu cn room : Nat} {r : Int} {cl cl' : Bool} {a b : Value} {U N X Y : List ByteArray} (h : Rf n w A r cl a b U N) (hi : In w B cu cn room cl' X Y) (ho : Oth B cu cn w w') : Rf n w' A r cl a b U N := ⟨ho.keep hi h.bx (by decide), h.tw.oth hi ho, h.lo, Nat.le_trans h.hn ho.size⟩
theorem set_at {w : World} {A : Nat} {cs : Array Value} {t : TypeId} (h : w.heap[A]? = some (.cells cs t)) (k : Nat) (u : Value) : (w.setCell ⟨A, k, none⟩ u).heap[A]? = some (.cells (cs.setIfInBounds k u) t) := by
  simp [World.setCell, Array.getElem?_modify, h]
theorem fr_at {w : World} {A : Nat} {cs : Array Value} {t : TypeId} (h : w.heap[A]? = some (.cells cs t)) (k : Nat) : w.frozen? ⟨A, k, none⟩ = false := by simp [World.frozen?, h]
/-- A cell of the box is written. -/
theorem Rf.set {n : Nat} {w : World} {A : Nat} {r : Int} {cl cl' : Bool} {a b a' b' : Value} {U' N' : List ByteArray} (h : w.heap[A]? = some (BR r a b cl)) (lo : n ≤ A) (hn : n ≤ w.heap.size) (ht : Tw w n a' b' U' N') (j : Nat) (p : Value) (hk : (#[.int .i64 r, a, b, .bool cl] : Array Value).setIfInBounds j p = #[.int .i64 r, a', b', .bool cl']) : Rf n (w.setCell ⟨A, j, none⟩ p) A r cl' a' b' U' N' ∧ Rk n w (w.setCell ⟨A, j, none⟩ p) := by
  have hA : (w.setCell ⟨A, j, none⟩ p).heap[A]? = some (BR r a' b' cl') := by rw [set_at h, hk]
  have hne : ∀ (v : Value) (ls : List ByteArray), Ro w n v ls → ∀ k, v.ownBlock = some k → (w.setCell ⟨A, j, none⟩ p).heap[k]? = w.heap[k]? := fun v ls hr k hk2 => Below.heap_setCell _ _ _ _ (fun e => by subst e; exact hr.ne h (fun _ _ e => by simp at e) hk2)
  exact ⟨⟨hA, ⟨ht.ru.kept (hne _ _ ht.ru), ht.rn.kept (hne _ _ ht.rn), ht.ap⟩, lo, by simp [World.setCell]; exact hn⟩, ⟨rfl, rfl, rfl, by simp [World.setCell], fun k hk2 => Below.heap_setCell _ _ _ _ (by show k ≠ A; omega)⟩, fun k o hk2 _ h2 => (Below.heap_setCell _ _ _ _ (fun e => by subst e; rw [h] at hk2; exact h2 _ _ (Option.some.inj hk2).symm)).trans hk2⟩
/-- A text is appended to a row. -/
theorem Rk.app {n : Nat} {w w' : World} {v : Value} {ls : List ByteArray} (hr : Ro w n v ls) (hn : n ≤ w.heap.size) (hg : w.grownBy w' v.ownBlock) : Rk n w w' := by
  refine ⟨⟨hg.os, hg.tape, hg.output, hg.size, fun k hk => hg.block k (by omega) (fun e => by have := (hr.lt k e.symm).1; omega)⟩, fun k o hk h1 _ => (hg.block k (Array.getElem?_eq_some_iff.1 hk).1 ?_).trans hk⟩
  exact (hr.ne hk h1).symm
theorem rnew_bad (r : Int) (w : World) (h : r < 1 ∨ 256 < r) : Calls Try.prog 7 #[.int .i64 r] w fun e w' => e = .returned (.tuple #[.pointer none, .int .i64 1]) ∧ w' = w := by
  by_cases h1 : r < 1
  · go_enter Try.func7, Try.ntmps7
    go_wp2
    go_ret2
    exact ⟨rfl, rfl⟩
  · have h2 : 256 < r := by omega
    clear h
    go_enter Try.func7, Try.ntmps7
    go_wp2
    go_ret2
    exact ⟨rfl, rfl⟩
theorem rnew_ok (r : Int) (w : World) (h1 : 1 ≤ r) (h2 : r ≤ 256) : Calls Try.prog 7 #[.int .i64 r] w fun e w' => e = .returned (.tuple #[.pointer (some ⟨w.heap.size, 0, none⟩), .int .i64 0]) ∧ w' = w.alloc (BR r (.slice none 0 0) (.slice none 0 0) false) := by
  have h3 : ¬ r < 1 := by omega
  have h4 : ¬ 256 < r := by omega
  go_enter Try.func7, Try.ntmps7
  go_wp2
  go_ret2
  exact ⟨rfl, rfl⟩
theorem len_eq (l : Nat) (room : Nat) : (((l : Nat) : Int) == (room : Int)) = decide (l = room) := by
  by_cases h : l = room
  · simp [h]
  · rw [decide_eq_false h, beq_eq_false_iff_ne]; omega
set_option maxHeartbeats 2000000 in
theorem rput_any (n A room : Nat) (cl b : Bool) (p1 : Option Addr) (c1 : Nat) (p2 : Option Addr) (c2 : Nat) (U N : List ByteArray) (x : ByteArray) (w : World) (h : Rf n w A room cl (.slice p1 U.length c1) (.slice p2 N.length c2) U N) (hU : U.length ≤ room) (hN : N.length ≤ room) (hr : room ≤ 256) :
    Calls Try.prog 16 #[.pointer (some ⟨A, 0, none⟩), .bool b, .string x] w fun e w' => e = .returned (.int .i64 (if b then putE cl room U else putE cl room N)) ∧ (∃ p1' c1' p2' c2', Rf n w' A room cl (.slice p1' (if b then putL cl room U x else U).length c1') (.slice p2' (if b then N else putL cl room N x).length c2') (if b then putL cl room U x else U) (if b then N else putL cl room N x)) ∧ Rk n w w' := by
  have H : Hid (Rf n w A room cl (.slice p1 U.length c1) (.slice p2 N.length c2) U N) := h
  obtain ⟨q0, q1, q2, q3⟩ := h.cells
  obtain ⟨i0, hi, hz0, hz1, hz2⟩ := info_parts infoSS
  clear h
  cases cl with
  | true =>
    have HE : Hid ((if b then putE true room U else putE true room N) = 7 ∧ (if b then putL true room U x else U) = U ∧ (if b then N else putL true room N x) = N) := by cases b <;> exact ⟨rfl, rfl, rfl⟩
    rw [HE.out.1, HE.out.2.1, HE.out.2.2]
    go_enter Try.func16, Try.ntmps16
    go_wp2
    go_ret
    exact ⟨rfl, ⟨_, _, _, _, H.out⟩, Rk.refl _ _⟩
  | false =>
    cases b with
    | true =>
      have hle := len_eq U.length room
      by_cases hl : U.length = room
      · have HE : Hid (putE false room U = 5 ∧ putL false room U x = U) := by
          unfold putE putL
          rw [if_neg (by decide), if_neg (by omega), if_neg (by decide), if_neg (by omega)]
          exact ⟨rfl, rfl⟩
        simp only [if_true]
        rw [HE.out.1, HE.out.2]
        rw [decide_eq_true hl] at hle
        go_enter Try.func16, Try.ntmps16
        go_wp2
        go_region
        all_goals
          go_wp2
          go_ret
          exact ⟨rfl, ⟨_, _, _, _, H.out.up ⟨rfl, rfl, rfl, Nat.le_refl _, fun _ _ => rfl⟩⟩, Rk.of ⟨rfl, rfl, rfl, Nat.le_refl _, fun _ _ => rfl⟩ H.out.hn⟩
      · have HE : Hid (putE false room U = 0 ∧ putL false room U x = U ++ [x]) := by
          unfold putE putL
          rw [if_neg (by decide), if_pos (by omega), if_neg (by decide), if_pos (by omega)]
          exact ⟨rfl, rfl⟩
        simp only [if_true]
        rw [HE.out.1, HE.out.2]
        rw [decide_eq_false hl] at hle
        have HLN : Hid (U.length ≤ 256) := by show _ ≤ _; omega
        have HO : Hid (AtW ES ((w.drew).alloc (.cells #[.string x] 9)) (.slice (some ⟨w.heap.size, 0, none⟩) 1 1) [x]) := at_oneS (heap_alloc_new w.drew _)
        have hup : Below w.heap.size w ((w.drew).alloc (.cells #[.string x] 9)) := bup (w1 := w.drew) ⟨rfl, rfl, rfl, Nat.le_refl _, fun _ _ => rfl⟩ (below_alloc w.drew _)
        have M1 : Hid (Tw ((w.drew).alloc (.cells #[.string x] 9)) n (.slice p1 U.length c1) (.slice p2 N.length c2) U N ∧ Rf n ((w.drew).alloc (.cells #[.string x] 9)) A room false (.slice p1 U.length c1) (.slice p2 N.length c2) U N ∧ Rk n w ((w.drew).alloc (.cells #[.string x] 9)) ∧ n ≤ ((w.drew).alloc (.cells #[.string x] 9)).heap.size) := ⟨H.out.tw.up hup, H.out.up hup, Rk.of hup H.out.hn, Nat.le_trans H.out.hn hup.size⟩
        clear hup
        go_enter Try.func16, Try.ntmps16
        go_wp2
        go_region
        all_goals
          go_wp2_with (at_builtin; refine wpList_ro _ rfl _ _ 36 rfl n i0 _ 16 Try.underlying36 hi hz0 hz1 hz2 rfl _ U (by rfl) M1.out.1.ru _ [x] (by rfl) HO.out (by simp) (by have := HLN.out; unfold maxLen; simp only [List.length_cons, List.length_nil]; omega) (by have := HLN.out; simp only [List.length_cons, List.length_nil]; omega) M1.out.2.2.2 ?_; intro v9 w9 hrow9 hg9 hloc9; have hk9 := Rk.app M1.out.1.ru M1.out.2.2.2 hg9; have hA9 : w9.heap[A]? = some (BR room (.slice p1 U.length c1) (.slice p2 N.length c2) false) := (hg9.block A (Array.getElem?_eq_some_iff.1 M1.out.2.1.bx).1 (M1.out.1.ru.ne M1.out.2.1.bx (fun _ _ e => by simp at e)).symm).trans M1.out.2.1.bx; have M9 : Hid (Tw w9 n v9 (.slice p2 N.length c2) (U ++ [x]) N ∧ w9.heap[A]? = some (BR room (.slice p1 U.length c1) (.slice p2 N.length c2) false) ∧ Rk n w w9 ∧ n ≤ w9.heap.size) := ⟨M1.out.1.app hrow9 hg9 hloc9, hA9, M1.out.2.2.1.trans hk9, Nat.le_trans M1.out.2.2.2 hg9.size⟩; have z1 : w9.cell? ⟨A, 1, none⟩ = some (.slice p1 U.length c1) := by simp [World.cell?, hA9]
                       have z2 := fr_at hA9 1; obtain ⟨p9, c9, rfl⟩ := hrow9.slice; clear hrow9 hg9 hloc9 hk9 hA9)
          go_ret
          rw [show U.length + 1 = (U ++ [x]).length from by simp]
          exact ⟨rfl, ⟨p9, c9, p2, c2, (Rf.set M9.out.2.1 H.out.lo M9.out.2.2.2 M9.out.1 1 _ rfl).1⟩, M9.out.2.2.1.trans (Rf.set M9.out.2.1 H.out.lo M9.out.2.2.2 M9.out.1 1 _ rfl).2⟩
    | false =>
      have hle := len_eq N.length room
      by_cases hl : N.length = room
      · have HE : Hid (putE false room N = 5 ∧ putL false room N x = N) := by
          unfold putE putL
          rw [if_neg (by decide), if_neg (by omega), if_neg (by decide), if_neg (by omega)]
          exact ⟨rfl, rfl⟩
        simp only [Bool.false_eq_true, if_false]
        rw [HE.out.1, HE.out.2]
        rw [decide_eq_true hl] at hle
        go_enter Try.func16, Try.ntmps16
        go_wp2
        go_region
        all_goals
          go_wp2
          go_ret
          exact ⟨rfl, ⟨_, _, _, _, H.out.up ⟨rfl, rfl, rfl, Nat.le_refl _, fun _ _ => rfl⟩⟩, Rk.of ⟨rfl, rfl, rfl, Nat.le_refl _, fun _ _ => rfl⟩ H.out.hn⟩
      · have HE : Hid (putE false room N = 0 ∧ putL false room N x = N ++ [x]) := by
          unfold putE putL
          rw [if_neg (by decide), if_pos (by omega), if_neg (by decide), if_pos (by omega)]
          exact ⟨rfl, rfl⟩
        simp only [Bool.false_eq_true, if_false]
        rw [HE.out.1, HE.out.2]
        rw [decide_eq_false hl] at hle
        have HLN : Hid (N.length ≤ 256) := by show _ ≤ _; omega
        have HO : Hid (AtW ES ((w.drew).alloc (.cells #[.string x] 9)) (.slice (some ⟨w.heap.size, 0, none⟩) 1 1) [x]) := at_oneS (heap_alloc_new w.drew _)
        have hup : Below w.heap.size w ((w.drew).alloc (.cells #[.string x] 9)) := bup (w1 := w.drew) ⟨rfl, rfl, rfl, Nat.le_refl _, fun _ _ => rfl⟩ (below_alloc w.drew _)
        have M1 : Hid (Tw ((w.drew).alloc (.cells #[.string x] 9)) n (.slice p1 U.length c1) (.slice p2 N.length c2) U N ∧ Rf n ((w.drew).alloc (.cells #[.string x] 9)) A room false (.slice p1 U.length c1) (.slice p2 N.length c2) U N ∧ Rk n w ((w.drew).alloc (.cells #[.string x] 9)) ∧ n ≤ ((w.drew).alloc (.cells #[.string x] 9)).heap.size) := ⟨H.out.tw.up hup, H.out.up hup, Rk.of hup H.out.hn, Nat.le_trans H.out.hn hup.size⟩
        clear hup
        go_enter Try.func16, Try.ntmps16
        go_wp2
        go_region
        all_goals
          go_wp2_with (at_builtin; refine wpList_ro _ rfl _ _ 36 rfl n i0 _ 16 Try.underlying36 hi hz0 hz1 hz2 rfl _ N (by rfl) M1.out.1.rn _ [x] (by rfl) HO.out (by simp) (by have := HLN.out; unfold maxLen; simp only [List.length_cons, List.length_nil]; omega) (by have := HLN.out; simp only [List.length_cons, List.length_nil]; omega) M1.out.2.2.2 ?_; intro v9 w9 hrow9 hg9 hloc9; have hk9 := Rk.app M1.out.1.rn M1.out.2.2.2 hg9; have hA9 : w9.heap[A]? = some (BR room (.slice p1 U.length c1) (.slice p2 N.length c2) false) := (hg9.block A (Array.getElem?_eq_some_iff.1 M1.out.2.1.bx).1 (M1.out.1.rn.ne M1.out.2.1.bx (fun _ _ e => by simp at e)).symm).trans M1.out.2.1.bx; have M9 : Hid (Tw w9 n (.slice p1 U.length c1) v9 U (N ++ [x]) ∧ w9.heap[A]? = some (BR room (.slice p1 U.length c1) (.slice p2 N.length c2) false) ∧ Rk n w w9 ∧ n ≤ w9.heap.size) := ⟨(M1.out.1.swap.app hrow9 hg9 hloc9).swap, hA9, M1.out.2.2.1.trans hk9, Nat.le_trans M1.out.2.2.2 hg9.size⟩; have z1 : w9.cell? ⟨A, 2, none⟩ = some (.slice p2 N.length c2) := by simp [World.cell?, hA9]
                       have z2 := fr_at hA9 2; obtain ⟨p9, c9, rfl⟩ := hrow9.slice; clear hrow9 hg9 hloc9 hk9 hA9)
          go_ret
          rw [show N.length + 1 = (N ++ [x]).length from by simp]
          exact ⟨rfl, ⟨p1, c1, p9, c9, (Rf.set M9.out.2.1 H.out.lo M9.out.2.2.2 M9.out.1 2 _ rfl).1⟩, M9.out.2.2.1.trans (Rf.set M9.out.2.1 H.out.lo M9.out.2.2.2 M9.out.1 2 _ rfl).2⟩
set_option maxHeartbeats 2000000 in
theorem rtake_any (n A room : Nat) (cl : Bool) (p1 : Option Addr) (c1 : Nat) (p2 : Option Addr) (c2 : Nat) (U N : List ByteArray) (w : World) (h : Rf n w A room cl (.slice p1 U.length c1) (.slice p2 N.length c2) U N) (hU : U.length ≤ 256) (hN : N.length ≤ 256) :
    Calls Try.prog 17 #[.pointer (some ⟨A, 0, none⟩)] w fun e w' => e = .returned (.tuple #[.string (tkS U N), .bool (tkB U), .int .i64 (tkE U N)]) ∧ (∃ p1' c1' p2' c2', Rf n w' A room cl (.slice p1' U.tail.length c1') (.slice p2' (tkN U N).length c2') U.tail (tkN U N)) ∧ Rk n w w' := by
  have H : Hid (Rf n w A room cl (.slice p1 U.length c1) (.slice p2 N.length c2) U N) := h
  obtain ⟨q0, q1, q2, q3⟩ := h.cells
  have z1 := fr_at h.bx 1
  have z2 := fr_at h.bx 2
  cases U with
  | cons x U =>
    obtain ⟨g, o, cc, hsl, -, hcell⟩ := h.tw.ru.cell (i := 0) (x := x) rfl
    simp only [Value.slice.injEq] at hsl
    obtain ⟨rfl, -, -⟩ := hsl
    rw [Nat.add_zero] at hcell
    obtain ⟨-, hc1, hc2, htl⟩ := h.tw.tail
    simp only [List.length_cons] at hU hc2 q1 ⊢
    by_cases hone : c1 = 1
    · subst hone
      rw [if_pos rfl] at htl
      obtain rfl : U = [] := List.eq_nil_of_length_eq_zero (by omega)
      have HF : Hid (Rf n (w.setCell ⟨A, 1, none⟩ (.slice (some ⟨g, o, none⟩) 0 0)) A room cl (.slice (some ⟨g, o, none⟩) 0 0) (.slice p2 N.length c2) [] N ∧ Rk n w (w.setCell ⟨A, 1, none⟩ (.slice (some ⟨g, o, none⟩) 0 0))) := Rf.set h.bx h.lo h.hn htl 1 _ rfl
      clear h htl
      go_enter Try.func17, Try.ntmps17
      go_wp2
      go_ret3
      exact ⟨rfl, ⟨_, _, _, _, HF.out.1⟩, HF.out.2⟩
    · rw [if_neg hone] at htl
      have HF : Hid (Rf n (w.setCell ⟨A, 1, none⟩ (.slice (some ⟨g, o + 1, none⟩) U.length (c1 - 1))) A room cl (.slice (some ⟨g, o + 1, none⟩) U.length (c1 - 1)) (.slice p2 N.length c2) U N ∧ Rk n w (w.setCell ⟨A, 1, none⟩ (.slice (some ⟨g, o + 1, none⟩) U.length (c1 - 1)))) := Rf.set h.bx h.lo h.hn htl 1 _ rfl
      clear h htl
      go_enter Try.func17, Try.ntmps17
      go_wp2
      go_ret3
      exact ⟨rfl, ⟨_, _, _, _, HF.out.1⟩, HF.out.2⟩
  | nil =>
    cases N with
    | cons x N =>
      obtain ⟨g, o, cc, hsl, -, hcell⟩ := h.tw.rn.cell (i := 0) (x := x) rfl
      simp only [Value.slice.injEq] at hsl
      obtain ⟨rfl, -, -⟩ := hsl
      rw [Nat.add_zero] at hcell
      obtain ⟨-, hc1, hc2, htl⟩ := h.tw.swap.tail
      simp only [List.length_cons, List.length_nil] at hN hc2 q1 q2 ⊢
      by_cases hone : c2 = 1
      · subst hone
        rw [if_pos rfl] at htl
        obtain rfl : N = [] := List.eq_nil_of_length_eq_zero (by omega)
        have HF : Hid (Rf n (w.setCell ⟨A, 2, none⟩ (.slice (some ⟨g, o, none⟩) 0 0)) A room cl (.slice p1 0 c1) (.slice (some ⟨g, o, none⟩) 0 0) [] [] ∧ Rk n w (w.setCell ⟨A, 2, none⟩ (.slice (some ⟨g, o, none⟩) 0 0))) := Rf.set h.bx h.lo h.hn htl.swap 2 _ rfl
        clear h htl
        go_enter Try.func17, Try.ntmps17
        go_wp2
        go_ret3
        exact ⟨rfl, ⟨_, _, _, _, HF.out.1⟩, HF.out.2⟩
      · rw [if_neg hone] at htl
        have HF : Hid (Rf n (w.setCell ⟨A, 2, none⟩ (.slice (some ⟨g, o + 1, none⟩) N.length (c2 - 1))) A room cl (.slice p1 0 c1) (.slice (some ⟨g, o + 1, none⟩) N.length (c2 - 1)) [] N ∧ Rk n w (w.setCell ⟨A, 2, none⟩ (.slice (some ⟨g, o + 1, none⟩) N.length (c2 - 1)))) := Rf.set h.bx h.lo h.hn htl.swap 2 _ rfl
        clear h htl
        go_enter Try.func17, Try.ntmps17
        go_wp2
        go_ret3
        exact ⟨rfl, ⟨_, _, _, _, HF.out.1⟩, HF.out.2⟩
    | nil =>
      simp only [List.length_nil] at q1 q2 ⊢
      clear h
      go_enter Try.func17, Try.ntmps17
      go_wp2
      go_ret3
      exact ⟨rfl, ⟨_, _, _, _, H.out⟩, Rk.refl _ _⟩
set_option maxHeartbeats 2000000 in
theorem rdrain_any (n A room : Nat) (cl : Bool) (p1 : Option Addr) (c1 : Nat) (p2 : Option Addr) (c2 : Nat) (U N : List ByteArray) (w : World) (h : Rf n w A room cl (.slice p1 U.length c1) (.slice p2 N.length c2) U N) (hU : U.length ≤ 256) (hN : N.length ≤ 256) :
    Calls Try.prog 18 #[.pointer (some ⟨A, 0, none⟩)] w fun e w' => ∃ v, e = .returned v ∧ AtW ES w' v (U ++ N) ∧ Rf n w' A room cl (.slice none 0 0) (.slice none 0 0) [] [] ∧ Rk n w w' ∧ (∀ k, k < w.heap.size → k ≠ A → w'.heap[k]? = w.heap[k]?) := by
  have H : Hid (Rf n w A room cl (.slice p1 U.length c1) (.slice p2 N.length c2) U N) := h
  have HL : Hid (U.length ≤ 256 ∧ N.length ≤ 256) := ⟨hU, hN⟩
  obtain ⟨q0, q1, q2, q3⟩ := h.cells
  obtain ⟨i0, hi, hz0, hz1, hz2⟩ := info_parts infoSS
  clear h
  go_enter Try.func18, Try.ntmps18
  go_wp2_with (first
    | (at_builtin; refine wpList_row _ rfl _ _ 36 rfl ES (fun _ => True) w.heap.size 9 i0 _ 16 Try.underlying36 hi hz0 hz1 hz2 rfl _ U (by rfl) M1.out.1 _ N (by rfl) (H.out.tw.rn.at.up M1.out.2) (by have := HL.out; unfold maxLen; omega) (by have := HL.out; omega) M1.out.2.size ?_; intro v2 w2 hrow2 hg2 hloc2; have hb2 : Below w.heap.size w w2 := ⟨hg2.os.trans M1.out.2.os, hg2.tape.trans M1.out.2.tape, hg2.output.trans M1.out.2.output, Nat.le_trans M1.out.2.size hg2.size, fun k hk => (hg2.block k (Nat.lt_of_lt_of_le hk M1.out.2.size) (fun e => by have := (M1.out.1.lt k e.symm).1; omega)).trans (M1.out.2.block k hk)⟩; have M2 : Hid (Row ES w2 w.heap.size 9 v2 (U ++ N) ∧ Below w.heap.size w w2) := ⟨hrow2, hb2⟩; obtain ⟨q20, q21, q22, q23⟩ := (H.out.up hb2).cells; have z21 := fr_at (H.out.up hb2).bx 1; have z22 := fr_at (H.out.up hb2).bx 2; obtain ⟨g2, m2, d2, rfl⟩ := hrow2.slice3; clear hrow2 hg2 hloc2 hb2)
    | (at_builtin; refine wpList_row _ rfl _ _ 36 rfl ES (fun _ => True) w.heap.size 9 i0 _ 16 Try.underlying36 hi hz0 hz1 hz2 rfl _ [] (by rfl) (Row.nil _ _ _ _) _ U (by rfl) H.out.tw.ru.at (by have := HL.out.1; unfold maxLen; simp only [List.length_nil]; omega) (by have := HL.out.1; simp only [List.length_nil]; omega) (Nat.le_refl _) ?_; intro v1 w1 hrow1 hg1 hloc1; rw [List.nil_append] at hrow1; have hb1 : Below w.heap.size w w1 := below_none (by simpa [Value.ownBlock] using hg1) (Nat.le_refl _); have M1 : Hid (Row ES w1 w.heap.size 9 v1 U ∧ Below w.heap.size w w1) := ⟨hrow1, hb1⟩; obtain ⟨q10, q11, q12, q13⟩ := (H.out.up hb1).cells; obtain ⟨g1, m1, d1, rfl⟩ := hrow1.slice3; clear hrow1 hg1 hloc1 hb1))
  go_ret
  have hA := (H.out.up M2.out.2).bx
  have s1 := Rf.set (U' := []) (N' := N) hA H.out.lo (Nat.le_trans H.out.hn M2.out.2.size) ⟨Ro.nil _ _, H.out.tw.rn.up M2.out.2, fun k hk => by simp [Value.ownBlock] at hk⟩ 1 (.slice none 0 0) rfl
  have s2 := Rf.set (U' := []) (N' := []) s1.1.bx H.out.lo s1.1.hn (Tw.nil _ _) 2 (.slice none 0 0) rfl
  refine ⟨_, rfl, ?_, s2.1, ((Rk.of M2.out.2 H.out.hn).trans s1.2).trans s2.2, fun k hk hne => (Below.heap_setCell _ _ _ _ hne).trans ((Below.heap_setCell _ _ _ _ hne).trans (M2.out.2.block k hk))⟩
  have hr := M2.out.1
  rcases hr with ⟨e1, e2⟩ | ⟨g, cap, cur, e, hB, hh, hc1, hc2, hc3, hc4⟩
  · rw [e1, e2]
    exact .inl ⟨_, _, rfl, rfl⟩
  · have hne : g ≠ A := fun e => by subst e; rw [hA] at hh; simp at hh
    refine (Row.at (E := ES) (B := w.heap.size) (e := 9) (.inr ⟨g, cap, cur, e, hB, ?_, hc1, hc2, hc3, hc4⟩)).imp fun _ _ _ => trivial
    exact (Below.heap_setCell _ _ _ _ hne).trans ((Below.heap_setCell _ _ _ _ hne).trans hh)
end Go.Proofs.Ytocainggkdmojaa
