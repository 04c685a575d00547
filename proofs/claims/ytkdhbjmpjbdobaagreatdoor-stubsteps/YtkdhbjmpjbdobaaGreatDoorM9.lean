/-
  The texts WRPack, as one.
-/
import Derived.Test.YtkdhbjmpjbdobaaGreatDoorM8
/- WRPack -/
namespace Go.Proofs.YtkdhbjmpjbdobaaGreatDoor
open Go.ChangeShapes Go.WideShapes Go.ChangeAt Go.RowKit Go.Deep Me
set_option maxRecDepth 100000
theorem step_row {α : Type} {P : Program} {w : World} {ops : Array Oper} {o : Oper} {a : Act} {K : Act → World → Prop} {Q : Exit → Act → World → Prop} {X : Prop} (hgd : o.guard = none) (s x : Operand) (t : TypeId)
    (ho : o.op = .call { callee := .builtin .append, args := #[s, x], argTypes := #[t, t] }) (E : Enc α) (S : Nat → Prop)
    (B : Nat) (e : TypeId) (i : TypeInfo) (z : Value) (bytes : Nat) (ht : P.underlying t = some (.slice e)) (hi : P.info? e = some i) (hz : i.zero = some z) (hsize : i.size = E.sz) (hby : i.bytes = bytes) (hzs : z.cells.size = E.sz)
    (v : Value) (ls : List α) (hv : a.eval s = v) (hrow : Row E w B e v ls) (xv : Value) (xs : List α) (hxv : a.eval x = xv) (hx : At E S w xv xs) (h63 : ls.length + xs.length ≤ maxLen) (hbytes : (ls.length + xs.length + (ls.length + xs.length) / 4 + 192) * bytes ≤ 281474976710656) (hbase : B ≤ w.heap.size)
    (h : ∀ v' w', Row E w' B e v' (ls ++ xs) → w.grownBy w' v.ownBlock → K (a.put o.dst v') w') :
    if Region.wanted o (yielded ops a.tmps) = true then Oper.wp P o a w K Q else X := by
  have hw : Region.wanted o (yielded ops a.tmps) = true := by simp [Region.wanted, hgd]
  rw [if_pos hw]
  obtain ⟨v', w', hr, h2, h3, _⟩ := Row.append_run (P := P) w E S B t o.type e i z bytes ht hi hz hsize hby hzs v ls hrow xv xs hx h63 hbytes hbase
  unfold Oper.wp execOp
  simp only [ho, resolve, invoke, builtin, Sem.run_bind, Sem.run_pure, Result.andThen_ok, List.map_toArray, List.map_cons, List.map_nil, hv, hxv, hr]
  exact h v' w' h2 h3
def EF : Enc (Int × ByteArray) := { sz := 2, cells := fun x => [.int .i64 x.1, .string x.2], len := fun _ => rfl, one := fun x u hu => by simp at hu; rcases hu with rfl | rfl <;> rfl }
theorem infoRF : (Tryz.prog.info? 134).map (fun i => (i.zero, i.size, i.bytes)) = some (some (.agg #[.int .i64 0, .string ⟨#[]⟩]), 2, 24) := by kernel_rfl
abbrev BF (t : Int) (s : ByteArray) : Obj := .cells #[.int .i64 t, .string s] 134
theorem at_oneF {w : World} {A : Nat} {t : Int} {s : ByteArray} (h : w.heap[A]? = some (BF t s)) : AtW EF w (.slice (some ⟨A, 0, none⟩) 1 1) [(t, s)] := by
  refine .inr ⟨A, 0, 1, rfl, trivial, (Array.getElem?_eq_some_iff.1 h).1, by simp, by simp, by unfold maxLen; omega, fun j u hj => ?_⟩
  have c0 : w.cell? ⟨A, 0, none⟩ = some (.int .i64 t) := by simp [World.cell?, h]
  have c1 : w.cell? ⟨A, 1, none⟩ = some (.string s) := by simp [World.cell?, h]
  match j, hj with
  | 0, hj => simp [Enc.flat, EF] at hj; subst hj; exact c0
  | 1, hj => simp [Enc.flat, EF] at hj; subst hj; exact c1
theorem at_fields {S : Nat → Prop} {w : World} {v : Value} {l : List (Int × ByteArray)} (h : At EF S w v l) : FieldsAt w.heap.size w v l := by
  have h2 := h.open
  rcases h with h | ⟨b, off, cap, rfl, hS, hb, hp, hc, hm, -⟩
  · exact .inl h
  · obtain ⟨ao, c', hv, -, hx⟩ := h2
    simp only [Value.slice.injEq] at hv
    obtain ⟨rfl, -, -⟩ := hv
    refine .inr ⟨b, off, cap, rfl, hb, hp, hc, hm, fun i hi => ?_⟩
    obtain ⟨b', off', e, -, -, hcc⟩ := hx i l[i] (List.getElem?_eq_getElem hi)
    simp only [Option.some.injEq, Addr.mk.injEq, and_true] at e
    obtain ⟨rfl, rfl⟩ := e
    have e2 : l.getD i (0, .empty) = l[i] := by simp [List.getD, hi]
    rw [e2]
    have a0 := hcc 0 _ rfl
    have a1 := hcc 1 _ rfl
    exact ⟨a0, a1⟩
theorem row_one {w : World} {A B : Nat} {t : Int} {s : ByteArray} (h : w.heap[A]? = some (BF t s)) (hB : B ≤ A) : Row EF w B 134 (.slice (some ⟨A, 0, none⟩) 1 1) [(t, s)] :=
  .inr ⟨A, 1, #[.int .i64 t, .string s], rfl, hB, h, Nat.le_refl _, by unfold maxLen; omega, by simp [EF], rfl⟩
theorem Row.slice3 {α : Type} {E : Enc α} {w : World} {B : Nat} {e : TypeId} {v : Value} {ls : List α} (h : Row E w B e v ls) : ∃ p n c, v = .slice p n c := by
  obtain ⟨p, c, h⟩ := h.slice
  exact ⟨p, _, c, h⟩
theorem rbytes_any (n z : Int) (w : World) (hn : n ≤ 9223372036854775807) : Calls Tryz.prog 94 #[.int .i64 n, .int .i64 z] w fun e w' => e = .returned (.string (Pl.numOut n z)) ∧ Below w.heap.size w w' := by
  go_enter Tryz.func94, Tryz.ntmps94
  go_wp2_with fail
  refine (refNum_any n z _ hn).mono ?_
  rintro e w1 ⟨rfl, hb⟩
  go_wp2
  go_ret
  exact ⟨rfl, hb⟩
/-- A row of fields of the call's own, and a memo's box that stays. -/
structure Rr (w0 : World) (A : Nat) (m : Mm) (u z : Value) (l : List (Int × ByteArray)) (v : Value) (w : World) : Prop where
  bx : w.heap[A]? = some (BMr m u z)
  row : Row EF w w0.heap.size 134 v l
  bel : Below w0.heap.size w0 w
theorem Rr.step {w0 : World} {A : Nat} {m : Mm} {u z : Value} {l : List (Int × ByteArray)} {v : Value} {w w' : World} (h : Rr w0 A m u z l v w) (hb : Below w.heap.size w w') : Rr w0 A m u z l v w' := ⟨blk h.bx hb, h.row.up hb, h.bel.trans (hb.mono h.bel.size)⟩
theorem Row.off {α : Type} {E : Enc α} {w : World} {B A : Nat} {e e' : TypeId} {v : Value} {ls : List α} {cs : Array Value} {z : Nat × Nat} (h : Row E w B e v ls) (h' : w.heap[A]? = some (.cells cs e' z)) (he : e ≠ e') : v.ownBlock = none ∨ v.ownBlock ≠ some A := by
  rcases h with ⟨rfl, rfl⟩ | ⟨g, cap, cur, rfl, hB, hg, -⟩
  · exact .inl rfl
  · right
    intro h
    simp [Value.ownBlock] at h
    subst h
    rw [hg] at h'
    simp at h'
    exact he h'.2.1
theorem Rr.app {w0 : World} {A : Nat} {m : Mm} {u z : Value} {l l' : List (Int × ByteArray)} {v v' : Value} {w w' : World} (h : Rr w0 A m u z l v w) (hr : Row EF w' w0.heap.size 134 v' l') (hg : w.grownBy w' v.ownBlock) : Rr w0 A m u z l' v' w' := by
  refine ⟨?_, hr, h.bel.grown hg h.bel.size (fun k hk => (h.row.lt k hk).1)⟩
  refine (hg.block A (Array.getElem?_eq_some_iff.1 h.bx).1 ?_).trans h.bx
  rcases h.row.off h.bx (by decide) with e | e
  · rw [e]; simp
  · exact fun e2 => e e2.symm
theorem step_app {ops : Array Oper} {o : Oper} {a : Act} {K : Act → World → Prop} {Q : Exit → Act → World → Prop} {X : Prop} {w0 V x : World} {A : Nat} {m : Mm} {u z : Value} {l : List (Int × ByteArray)} {p : Option Addr} {n c : Nat} (hgd : o.guard = none) (s y : Operand)
    (ho : o.op = .call { callee := .builtin .append, args := #[s, y], argTypes := #[130, 130] }) (i0 : TypeInfo) (hi : Tryz.prog.info? 134 = some i0) (hz0 : i0.zero = some (.agg #[.int .i64 0, .string ⟨#[]⟩])) (hz1 : i0.size = 2) (hz2 : i0.bytes = 24)
    (hR : Rr w0 A m u z l (.slice p n c) V) (hb : Below V.heap.size V x) (t : Int) (b : ByteArray) (hv : a.eval s = .slice p n c) (hy : a.eval y = .slice (some ⟨x.heap.size, 0, none⟩) 1 1) (hl : l.length ≤ 1000)
    (h : ∀ v' w', Rr w0 A m u z (l ++ [(t, b)]) v' w' → (∀ (B : Nat) (o' : Array Value) (T : TypeId), T ≠ 134 → x.heap[B]? = some (Obj.cells o' T (0, 0)) → w'.heap[B]? = some (Obj.cells o' T (0, 0))) → K (a.put o.dst v') w') :
    if Region.wanted o (yielded ops a.tmps) = true then Oper.wp Tryz.prog o a (x.alloc (BF t b)) K Q else X := by
  have hR2 := (hR.step hb).step (below_alloc x (BF t b))
  refine step_row hgd s y 130 ho EF (fun _ => True) w0.heap.size 134 i0 _ 24 Tryz.underlying130 hi hz0 hz1 hz2 rfl _ l hv hR2.row _ [(t, b)] hy (at_oneF (heap_alloc_new _ _)) (by unfold maxLen; simp only [List.length_cons, List.length_nil]; omega) (by simp only [List.length_cons, List.length_nil]; omega) hR2.bel.size ?_
  intro v' w' hr hg
  refine h v' w' (hR2.app hr hg) fun B o' T hT hB => ?_
  have hB2 := blk hB (below_alloc x (BF t b))
  refine (hg.block B (Array.getElem?_eq_some_iff.1 hB2).1 ?_).trans hB2
  rcases hR2.row.off hB2 (Ne.symm hT) with e | e
  · rw [e]; simp
  · exact fun e2 => e e2.symm
theorem big_take {l : List Int} {k : Nat} {y : Int} (t : Int) (h : l[k]? = some y) : bigF (l.take (k + 1)) t = bigF (l.take k) t ++ opt (y != 0) (t + k, Pl.numOut y 6) := by
  induction l generalizing k t with
  | nil => simp at h
  | cons z l ih =>
    match k, h with
    | 0, h => simp at h; subst h; simp [bigF]
    | k + 1, h =>
      have := ih (t + 1) (by simpa using h)
      simp only [List.take_succ_cons, bigF, this, List.append_assoc]
      rw [show t + 1 + (k : Int) = t + ((k + 1 : Nat) : Int) by push_cast; omega]
theorem big_len (l : List Int) (k : Nat) : (bigF (l.take k) 2).length ≤ k := Nat.le_trans (bigF_len _ _) (by rw [List.length_take]; omega)
set_option maxRecDepth 100000 in
set_option maxRecDepth 100000 in
set_option maxHeartbeats 16000000 in
theorem rPack_any (m : Mm) (u z : Value) (w : World) (hv : MAt w m u z) : Calls Tryz.prog 56 #[VM m u z] w fun e w' => e = .returned (.tuple #[.string (packOut m), .int .i64 (packErr m)]) ∧ Below w.heap.size w w' := by
  have HV : Hid (MAt w m u z) := hv
  obtain ⟨ao1, cap1, rfl, -, hx1⟩ := hv.lives.open
  obtain ⟨ao2, cap2, rfl, -, hx2⟩ := hv.items.open
  obtain ⟨n1, hn1⟩ : ∃ n1, m.lives.length = n1 := ⟨_, rfl⟩
  obtain ⟨n2, hn2⟩ : ∃ n2, m.items.length = n2 := ⟨_, rfl⟩
  have HN1 : Hid (m.lives.length = n1) := hn1
  have HN2 : Hid (m.items.length = n2) := hn2
  have HX1 : Hid (∀ i x, m.lives[i]? = some x → ∃ b off, ao1 = some ⟨b, off, none⟩ ∧ True ∧ b < w.heap.size ∧ ∀ k u, (EI.cells x)[k]? = some u → w.cell? ⟨b, off + (i * EI.sz + k), none⟩ = some u) := hx1
  have HX2 : Hid (∀ i x, m.items[i]? = some x → ∃ b off, ao2 = some ⟨b, off, none⟩ ∧ True ∧ b < w.heap.size ∧ ∀ k u, (EM.cells x)[k]? = some u → w.cell? ⟨b, off + (i * EM.sz + k), none⟩ = some u) := hx2
  rw [hn1, hn2] at HV ⊢
  obtain ⟨W, hW⟩ : ∃ W, w.alloc (BMr m (.slice ao1 n1 cap1) (.slice ao2 n2 cap2)) = W := ⟨_, rfl⟩
  have HW : Hid (w.alloc (BMr m (.slice ao1 n1 cap1) (.slice ao2 n2 cap2)) = W) := hW
  have HBW : Hid (Below w.heap.size w W) := by rw [← hW]; exact below_alloc _ _
  obtain ⟨A, hA⟩ : ∃ A, w.heap.size = A := ⟨_, rfl⟩
  have HA : Hid (w.heap.size = A) := hA
  have HX : Hid (W.heap[A]? = some (BMr m (.slice ao1 n1 cap1) (.slice ao2 n2 cap2))) := by rw [← hW, ← hA]; exact heap_alloc_new _ _
  obtain ⟨i0, hi, hz0, hz1, hz2⟩ := info_parts infoRF
  cases hr : right m with
  | false =>
    have HE : Hid (right m = false) := hr
    have HO : Hid (packOut m = ⟨#[]⟩ ∧ packErr m = 4) := by unfold packOut packErr; rw [hr]; exact ⟨rfl, rfl⟩
    clear hr hW hA hn1 hn2 hx1 hx2 hv
    go_enter Tryz.func56, Tryz.ntmps56
    go_wp2_with fail
    rw [HW.out, HA.out]
    refine (rright_any m _ _ _ (HV.out.up HBW.out)).mono ?_
    rintro e w1 ⟨rfl, hb1⟩
    rw [HE.out]
    have HB1 : Hid (Below w.heap.size w w1) := bup HBW.out hb1
    clear hb1
    go_wp2
    go_ret2
    rw [HO.out.1, HO.out.2]
    exact ⟨rfl, HB1.out⟩
  | true =>
    obtain ⟨hk, hbg, hlv, hil, hit, hmn, hnu, -⟩ := right_iff.1 hr
    have HRT : Hid (right m = true) := hr
    have hn17 : n1 ≤ 7 := by rw [← hn1]; exact liv_len hlv
    have hn2b : n2 ≤ 256 := by rw [← hn2]; exact hil
    have HK : Hid (m.k ≤ 9223372036854775807) := by simp only [kB, decide_eq_true_eq] at hk; show m.k ≤ _; omega
    have HG : Hid (∀ y ∈ bigs m, 0 ≤ y ∧ y ≤ 1099511627776) := fun y hy => big_iff.1 (List.all_eq_true.1 hbg y hy)
    have HLV : Hid (∀ y ∈ m.lives, y ≤ 9223372036854775807) := fun y hy => by
      unfold livB at hlv
      simp only [Bool.or_eq_true, Bool.and_eq_true, decide_eq_true_eq] at hlv
      rcases hlv with h | ⟨-, -, h⟩
      · have : m.lives = [] := List.eq_nil_of_length_eq_zero h
        rw [this] at hy
        cases hy
      · have := big_iff.1 (List.all_eq_true.1 h y hy)
        omega
    have HIT : Hid (∀ y ∈ m.items, okIt y = true) := List.all_eq_true.1 hit
    have HMN : Hid (m.mo ≤ 9223372036854775807 ∧ m.ms ≤ 9223372036854775807 ∧ m.mm ≤ 9223372036854775807) := by
      unfold manB manZ manR at hmn
      simp only [Bool.or_eq_true, Bool.and_eq_true, beq_iff_eq, decide_eq_true_eq] at hmn
      exact ⟨by omega, by omega, by omega⟩
    have HNU : Hid (0 ≤ m.nu ∧ m.nu ≤ 65535) := by simp only [nB, decide_eq_true_eq] at hnu; exact hnu
    have HLN : Hid ((g6 m).length ≤ 280 ∧ (g5 m).length ≤ 280 ∧ (g4 m).length ≤ 280 ∧ (g3 m).length ≤ 15 ∧ (g2 m).length ≤ 8) := (fields_len hr).2
    have HEN : Hid ((Pl.encs (fields m)).length ≤ 1099511627776) := Nat.le_trans (encs_small hr) (by decide)
    obtain ⟨t, ht⟩ : ∃ t, text m = t := ⟨_, rfl⟩
    have HTO : Hid (Pl.packOut (fields m) = t) := by rw [← ht]; exact tlv_out hr
    have hts : t.size ≤ 2294600 := by rw [← ht]; exact text_size hr
    have hpk : packed m = Po.Pl.guardOf t := by rw [← ht]; rfl
    have hps : (packed m).size = t.size + 4 := by rw [hpk, Po.Pl.guardOf_size]
    have HOL : Hid (60000 < t.size + 4 → packOut m = ⟨#[]⟩ ∧ packErr m = 2) := fun h => by unfold packOut packErr; rw [hr, hps, if_pos rfl, if_pos h, if_pos rfl, if_pos h]; exact ⟨rfl, rfl⟩
    have HOS : Hid (¬ 60000 < t.size + 4 → packOut m = Po.Pl.guardOf t ∧ packErr m = 0) := fun h => by unfold packOut packErr; rw [hr, hps, if_pos rfl, if_neg h, if_pos rfl, if_neg h]; exact ⟨hpk, rfl⟩
    clear hr hW hA hn1 hn2 hx1 hx2 hv hk hbg hlv hil hit hmn hnu ht hpk hps
    go_enter Tryz.func56, Tryz.ntmps56
    go_wp2_with fail
    rw [HW.out, HA.out]
    refine (rright_any m _ _ _ (HV.out.up HBW.out)).mono ?_
    rintro e w1 ⟨rfl, hb1⟩
    rw [HRT.out]
    have HB1 : Hid (Below w.heap.size w w1) := bup HBW.out hb1
    have HX1' : Hid (w1.heap[A]? = some (BMr m (.slice ao1 n1 cap1) (.slice ao2 n2 cap2))) := blk HX.out hb1
    obtain ⟨c0, c1, c2, c3, c4, c5, c6, c7, c8, c9, c10, c11, c12, c13, c14⟩ := mr_of HX1'.out
    clear hb1
    go_wp2_with fail
    refine (rbytes_any m.k 1 _ HK.out).mono ?_
    rintro e w2 ⟨rfl, hb2⟩
    obtain ⟨W2, hW2⟩ : ∃ W2, w2.alloc (BF 1 (Pl.numOut m.k 1)) = W2 := ⟨_, rfl⟩
    have HW2 : Hid (w2.alloc (BF 1 (Pl.numOut m.k 1)) = W2) := hW2
    obtain ⟨G, hG⟩ : ∃ G, w2.heap.size = G := ⟨_, rfl⟩
    have HGG : Hid (w2.heap.size = G) := hG
    have HR0 : Hid (Rr w A m (.slice ao1 n1 cap1) (.slice ao2 n2 cap2) (g1 m) (.slice (some ⟨G, 0, none⟩) 1 1) W2) := by
      have hb := bup HB1.out hb2
      refine ⟨?_, ?_, ?_⟩
      · rw [← hW2]; exact blk (blk HX1'.out hb2) (below_alloc _ _)
      · rw [← hW2, ← hG]; exact row_one (heap_alloc_new _ _) hb.size
      · rw [← hW2]; exact bup hb (below_alloc _ _)
    clear hb2 hW2 hG c0 c1 c2 c3 c4 c5 c6 c7 c8 c9 c10 c11 c12 c13 c14
    go_wp2
    rw [HW2.out, HGG.out]
    go_loopw [4, 5] (fun v i wr => ∃ (k : Nat) (pp : Option Addr) (jj q : Nat), k ≤ 7 ∧ i = .int .i64 k ∧ v = .slice pp jj q ∧ Hid (Rr w A m (.slice ao1 n1 cap1) (.slice ao2 n2 cap2) (g1 m ++ bigF ((bigs m).take k) 2) (.slice pp jj q) wr)) (fun _ i _ => 7 - (intOf i).toNat)
    case atStart => exact ⟨0, _, _, _, Nat.zero_le _, rfl, rfl, by show Rr _ _ _ _ _ _ _ _; simpa [bigF] using HR0.out⟩
    case round =>
      obtain ⟨k, pp, jj, q, hk, rfl, rfl, HR⟩ := hrel
      by_cases hlt : k < 7
      · obtain ⟨y, hyk⟩ : ∃ y, (bigs m)[k]? = some y := ⟨_, List.getElem?_eq_getElem (by simp [bigs]; exact hlt)⟩
        have d0 := big_cell HR.out.bx hyk
        have hlt' : (k : Int) < 7 := by omega
        have hyb := HG.out y (List.mem_of_getElem? hyk)
        have HTK : Hid (bigF ((bigs m).take (k + 1)) 2 = bigF ((bigs m).take k) 2 ++ opt (y != 0) (2 + k, Pl.numOut y 6)) := big_take 2 hyk
        have HLEN : Hid ((g1 m ++ bigF ((bigs m).take k) 2).length ≤ 1 + k) := by show _ ≤ _; rw [List.length_append]; have h1 := big_len (bigs m) k; have h2 : (g1 m).length = 1 := rfl; omega
        clear hyk
        by_cases hy : 0 < y
        · have HYB : Hid (y ≤ 9223372036854775807) := by show y ≤ _; omega
          have HT2 : Hid (g1 m ++ bigF ((bigs m).take (k + 1)) 2 = (g1 m ++ bigF ((bigs m).take k) 2) ++ [(2 + (k : Int), Pl.numOut y 6)]) := by
            show _ = _
            have : (y != 0) = true := by simp; omega
            rw [HTK.out, this, List.append_assoc]
            rfl
          go_wp2_with fail
          refine (rbytes_any y 6 _ HYB.out).mono ?_
          rintro e x3 ⟨rfl, hb3⟩
          have HR2 : Hid (Rr w A m (.slice ao1 n1 cap1) (.slice ao2 n2 cap2) (g1 m ++ bigF ((bigs m).take k) 2) (.slice pp jj q) (x3.alloc (BF ((k : Int) + 2) (Pl.numOut y 6)))) := (HR.out.step hb3).step (below_alloc _ _)
          have HO : Hid (AtW EF (x3.alloc (BF ((k : Int) + 2) (Pl.numOut y 6))) (.slice (some ⟨x3.heap.size, 0, none⟩) 1 1) [((k : Int) + 2, Pl.numOut y 6)]) := at_oneF (heap_alloc_new _ _)
          clear hb3 d0
          go_wp2_with (at_builtin; refine wpList_row _ rfl _ _ 130 rfl EF (fun _ => True) w.heap.size 134 i0 _ 24 Tryz.underlying130 hi hz0 hz1 hz2 rfl _ (g1 m ++ bigF ((bigs m).take k) 2) (by rfl) HR2.out.row _ [((k : Int) + 2, Pl.numOut y 6)] (by rfl) HO.out (by have := HLEN.out; unfold maxLen; simp only [List.length_cons, List.length_nil]; omega) (by have := HLEN.out; simp only [List.length_cons, List.length_nil]; omega) (by have := HR2.out.bel.size; exact this) ?_; intro v9 w9 hrow9 hg9 hloc9)
          have hR3 := HR2.out.app hrow9 hg9
          rw [Int.add_comm, ← HT2.out] at hR3
          have HR3 : Hid (Rr w A m (.slice ao1 n1 cap1) (.slice ao2 n2 cap2) (g1 m ++ bigF ((bigs m).take (k + 1)) 2) v9 w9) := hR3
          clear hrow9 hg9 hloc9 hR3
          obtain ⟨p9, n9, c9', rfl⟩ := HR3.out.row.slice3
          go_wp2
          go_roundw
          case rel => exact ⟨k + 1, p9, n9, c9', by omega, by go_num, rfl, HR3.out⟩
          case measure => simp [intOf]; omega
        · have HT2 : Hid (g1 m ++ bigF ((bigs m).take (k + 1)) 2 = g1 m ++ bigF ((bigs m).take k) 2) := by
            show _ = _
            have : (y != 0) = false := by simp; omega
            rw [HTK.out, this]
            simp [opt]
          go_wp2
          go_roundw
          case rel => exact ⟨k + 1, pp, jj, q, by omega, by go_num, rfl, by rw [HT2.out]; exact HR.out⟩
          case measure => simp [intOf]; omega
      · have hkn : ¬ (k : Int) < 7 := by omega
        have hT : (bigs m).take k = bigs m := List.take_of_length_le (by simp [bigs]; omega)
        have HRB : Hid (Rr w A m (.slice ao1 n1 cap1) (.slice ao2 n2 cap2) (g2 m) (.slice pp jj q) wr) := by have h := HR.out; rw [hT] at h; exact h
        have hk77 : (k : Int) ≤ 7 := by omega
        obtain ⟨c0, c1, c2, c3, c4, c5, c6, c7, c8, c9, c10, c11, c12, c13, c14⟩ := mr_of HRB.out.bx
        clear hlt hT HR hk
        go_wp2
        clear c0 c1 c2 c3 c4 c5 c6 c7 c8 c9 c10 c11 c12 c13 c14
        go_loopw [4, 43] (fun v i wr => ∃ (j : Nat) (pp : Option Addr) (jj q : Nat), j ≤ n1 ∧ i = .int .i64 j ∧ v = .slice pp jj q ∧ Hid (Rr w A m (.slice ao1 n1 cap1) (.slice ao2 n2 cap2) (g2 m ++ lifeF (m.lives.take j)) (.slice pp jj q) wr)) (fun _ i _ => n1 - (intOf i).toNat)
        case atStart => exact ⟨0, _, _, _, Nat.zero_le _, rfl, rfl, by show Rr _ _ _ _ _ _ _ _; simpa [lifeF] using HRB.out⟩
        case round =>
          obtain ⟨j, pp, jj, q, hj, rfl, rfl, HR⟩ := hrel
          by_cases hlj : j < n1
          · obtain ⟨y, hyk⟩ : ∃ y, m.lives[j]? = some y := ⟨_, List.getElem?_eq_getElem (by rw [HN1.out]; exact hlj)⟩
            obtain ⟨b2, off, rfl, -, hB, hc⟩ := HX1.out j y hyk
            have d0 : wr.cell? ⟨b2, off + j, none⟩ = some (.int .i64 y) := by have := (HR.out.bel.cell (p := ⟨b2, off + (j * EI.sz + 0), none⟩) hB).trans (hc 0 _ rfl); simpa [EI] using this
            have hlj' : (j : Int) < (n1 : Int) := by omega
            have HYB : Hid (y ≤ 9223372036854775807) := HLV.out y (List.mem_of_getElem? hyk)
            have HLA : Hid (lifeF (m.lives.take (j + 1)) = lifeF (m.lives.take j) ++ [(9, Pl.numOut y 6)]) := lives_at hyk
            have HLEN : Hid ((g2 m ++ lifeF (m.lives.take j)).length ≤ 8 + j) := by show _ ≤ _; rw [List.length_append]; have h1 := HLN.out.2.2.2.2; have h2 := lives_len m.lives j; omega
            clear hc hyk hB
            go_wp2_with fail
            refine (rbytes_any y 6 _ HYB.out).mono ?_
            rintro e x3 ⟨rfl, hb3⟩
            have HR2 : Hid (Rr w A m _ _ (g2 m ++ lifeF (m.lives.take j)) (.slice pp jj q) (x3.alloc (BF 9 (Pl.numOut y 6)))) := (HR.out.step hb3).step (below_alloc _ _)
            have HO : Hid (AtW EF (x3.alloc (BF 9 (Pl.numOut y 6))) (.slice (some ⟨x3.heap.size, 0, none⟩) 1 1) [(9, Pl.numOut y 6)]) := at_oneF (heap_alloc_new _ _)
            clear hb3 d0
            go_wp2_with (at_builtin; refine wpList_row _ rfl _ _ 130 rfl EF (fun _ => True) w.heap.size 134 i0 _ 24 Tryz.underlying130 hi hz0 hz1 hz2 rfl _ (g2 m ++ lifeF (m.lives.take j)) (by rfl) HR2.out.row _ [(9, Pl.numOut y 6)] (by rfl) HO.out (by have := HLEN.out; unfold maxLen; simp only [List.length_cons, List.length_nil]; omega) (by have := HLEN.out; simp only [List.length_cons, List.length_nil]; omega) (by have := HR2.out.bel.size; exact this) ?_; intro v9 w9 hrow9 hg9 hloc9)
            have hR3 := HR2.out.app hrow9 hg9
            rw [List.append_assoc, ← HLA.out] at hR3
            have HR3 : Hid (Rr w A m _ _ (g2 m ++ lifeF (m.lives.take (j + 1))) v9 w9) := hR3
            clear hrow9 hg9 hloc9 hR3
            obtain ⟨p9, n9, c9', rfl⟩ := HR3.out.row.slice3
            go_wp2
            go_roundw
            case rel => exact ⟨j + 1, p9, n9, c9', by omega, by go_num, rfl, HR3.out⟩
            case measure => simp [intOf]; omega
          · obtain rfl : n1 = j := by omega
            have HRC : Hid (Rr w A m (.slice ao1 n1 cap1) (.slice ao2 n2 cap2) (g3 m) (.slice pp jj q) wr) := by
              have h := HR.out
              rw [← HN1.out, List.take_length] at h
              rw [← HN1.out]
              exact h
            obtain ⟨c0, c1, c2, c3, c4, c5, c6, c7, c8, c9, c10, c11, c12, c13, c14⟩ := mr_of HRC.out.bx
            clear HR HRB
            go_wp2
            clear c0 c1 c2 c3 c4 c5 c6 c7 c8 c9 c10 c11 c12 c13 c14
            go_loopw [4, 57] (fun v i wr => ∃ (j : Nat) (pp : Option Addr) (jj q : Nat), j ≤ n2 ∧ i = .int .i64 j ∧ v = .slice pp jj q ∧ Hid (Rr w A m (.slice ao1 n1 cap1) (.slice ao2 n2 cap2) (g3 m ++ itF (m.items.take j)) (.slice pp jj q) wr)) (fun _ i _ => n2 - (intOf i).toNat)
            case atStart => exact ⟨0, _, _, _, Nat.zero_le _, rfl, rfl, by show Rr _ _ _ _ _ _ _ _; simpa [itF] using HRC.out⟩
            case round =>
              obtain ⟨j, pp, jj, q, hj2, rfl, rfl, HR⟩ := hrel
              by_cases hlj2 : j < n2
              · obtain ⟨y, hyk⟩ : ∃ y, m.items[j]? = some y := ⟨_, List.getElem?_eq_getElem (by rw [HN2.out]; exact hlj2)⟩
                obtain ⟨b2, off, rfl, -, hB, hc⟩ := HX2.out j y hyk
                have aa := fun i u hi => (HR.out.bel.cell (p := ⟨b2, off + (j * EM.sz + i), none⟩) hB).trans (hc i u hi)
                have d0 : wr.cell? ⟨b2, off + j * 4, none⟩ = some (.int .i64 y.v) := aa 0 _ rfl
                have d1 : wr.cell? ⟨b2, off + j * 4 + 1, none⟩ = some (.int .i64 y.c) := aa 1 _ rfl
                have d2 : wr.cell? ⟨b2, off + j * 4 + 2, none⟩ = some (.int .i64 y.r) := aa 2 _ rfl
                have d3 : wr.cell? ⟨b2, off + j * 4 + 3, none⟩ = some (.string y.b) := aa 3 _ rfl
                have hlj2' : (j : Int) < (n2 : Int) := by omega
                have hok := HIT.out y (List.mem_of_getElem? hyk)
                simp only [okIt, decide_eq_true_eq] at hok
                have HY1 : Hid (y.v ≤ 9223372036854775807) := by show _ ≤ _; omega
                have HY2 : Hid (y.c ≤ 9223372036854775807) := by show _ ≤ _; omega
                have HY3 : Hid (y.r ≤ 9223372036854775807) := by show _ ≤ _; omega
                have hyb : y.b.size ≤ 4096 := hok.2.2.2
                have HLA : Hid (itF (m.items.take (j + 1)) = itF (m.items.take j) ++ [(10, itB y)]) := items_at hyk
                have HLEN : Hid ((g3 m ++ itF (m.items.take j)).length ≤ 15 + j) := by show _ ≤ _; rw [List.length_append]; have h1 := HLN.out.2.2.2.1; have h2 := items_len m.items j; omega
                obtain ⟨s1, hs1⟩ : ∃ s, Pl.numOut y.v 6 = s := ⟨_, rfl⟩
                obtain ⟨s2, hs2⟩ : ∃ s, Pl.numOut y.c 6 = s := ⟨_, rfl⟩
                obtain ⟨s3, hs3⟩ : ∃ s, Pl.numOut y.r 6 = s := ⟨_, rfl⟩
                have z1 : s1.size ≤ 6 := by rw [← hs1]; exact numOut_le y.v 6 (by decide) (by decide)
                have z2 : s2.size ≤ 6 := by rw [← hs2]; exact numOut_le y.c 6 (by decide) (by decide)
                have z3 : s3.size ≤ 6 := by rw [← hs3]; exact numOut_le y.r 6 (by decide) (by decide)
                have HIB : Hid (itB y = s1 ++ s2 ++ s3 ++ y.b) := by show itB y = _; unfold itB; rw [hs1, hs2, hs3]
                have q1 : ¬ 9223372036854775807 < s1.size + s2.size := by omega
                have q2 : ¬ 9223372036854775807 < s1.size + s2.size + s3.size := by omega
                have q3 : ¬ 9223372036854775807 < s1.size + s2.size + s3.size + y.b.size := by omega
                have HC1 : Hid (∀ V, Calls Tryz.prog 94 #[.int .i64 y.v, .int .i64 6] V fun e w' => e = .returned (.string s1) ∧ Below V.heap.size V w') := fun V => by rw [← hs1]; exact rbytes_any _ _ V HY1.out
                have HC2 : Hid (∀ V, Calls Tryz.prog 94 #[.int .i64 y.c, .int .i64 6] V fun e w' => e = .returned (.string s2) ∧ Below V.heap.size V w') := fun V => by rw [← hs2]; exact rbytes_any _ _ V HY2.out
                have HC3 : Hid (∀ V, Calls Tryz.prog 94 #[.int .i64 y.r, .int .i64 6] V fun e w' => e = .returned (.string s3) ∧ Below V.heap.size V w') := fun V => by rw [← hs3]; exact rbytes_any _ _ V HY3.out
                obtain ⟨V, hV⟩ : ∃ V, wr.alloc (BI y) = V := ⟨_, rfl⟩
                have HVV : Hid (wr.alloc (BI y) = V) := hV
                have hbV : Below wr.heap.size wr V := by rw [← hV]; exact below_alloc _ _
                have HRV : Hid (Rr w A m _ _ (g3 m ++ itF (m.items.take j)) (.slice pp jj q) V) := HR.out.step hbV
                obtain ⟨X, hX⟩ : ∃ X, wr.heap.size = X := ⟨_, rfl⟩
                have HXX : Hid (wr.heap.size = X) := hX
                have HXV : Hid (V.heap[X]? = some (BI y)) := by rw [← hV, ← hX]; exact heap_alloc_new _ _
                have HST : Hid (∀ U : World, U.heap[X]? = some (BI y) → U.cell? ⟨X, 0, none⟩ = some (.int .i64 y.v) ∧ U.cell? ⟨X, 1, none⟩ = some (.int .i64 y.c) ∧ U.cell? ⟨X, 2, none⟩ = some (.int .i64 y.r) ∧ U.cell? ⟨X, 3, none⟩ = some (.string y.b)) := fun U hU => it_of hU
                clear hc hyk hB aa hok hs1 hs2 hs3 hbV hV hX z1 z2 z3
                go_wp2_with fail
                rw [HVV.out, HXX.out]
                clear d0 d1 d2 d3
                go_region_held3 (fun U => U.cell? ⟨X, 0, none⟩ = some (.int .i64 y.v) ∧ U.cell? ⟨X, 1, none⟩ = some (.int .i64 y.c) ∧ U.cell? ⟨X, 2, none⟩ = some (.int .i64 y.r) ∧ U.cell? ⟨X, 3, none⟩ = some (.string y.b)) (first | exact HST.out _ (blk HXV.out (bel_drew (Below.refl _ _))) | exact HST.out _ (blk HXV.out (by with_reducible assumption)) | exact HST.out _ (blk (blk HXV.out (by with_reducible assumption)) (below_alloc _ _)) | exact HST.out _ (by with_reducible assumption)) (first
                  | (go_at_call 94; with_reducible refine (HC1.out _).mono ?_; rintro e x1 ⟨rfl, hb1⟩; have hb1' : Below V.heap.size V x1 := bup (by first | with_reducible assumption | exact bel_drew (Below.refl _ _)) hb1; clear hb1)
                  | (go_at_call 94; with_reducible refine (HC2.out _).mono ?_; rintro e x2 ⟨rfl, hb2⟩; have hb2' : Below V.heap.size V x2 := bup (by first | with_reducible assumption | exact bel_drew (Below.refl _ _)) hb2; clear hb2)
                  | (go_at_call 94; with_reducible refine (HC3.out _).mono ?_; rintro e x3 ⟨rfl, hb3⟩; have hb3' : Below V.heap.size V x3 := bup (by first | with_reducible assumption | exact bel_drew (Below.refl _ _)) hb3; clear hb3)
                  | (refine step_app (by rfl) _ _ (by rfl) i0 hi hz0 hz1 hz2 HRV.out (by with_reducible assumption) 10 (s1 ++ s2 ++ s3 ++ y.b) (by rfl) (by rfl) (by have := HLEN.out; omega) ?_; intro v9 w9 hR9 hbk9; have hxx : w9.heap[X]? = some (BI y) := hbk9 X _ _ (by decide) (blk HXV.out (by with_reducible assumption))))
                all_goals
                  have hR3 := hR9
                  rw [List.append_assoc, ← HIB.out, ← HLA.out] at hR3
                  have HR3 : Hid (Rr w A m _ _ (g3 m ++ itF (m.items.take (j + 1))) v9 w9) := hR3
                  clear hR9 hbk9 hxx hR3
                  obtain ⟨p9, n9, c9', rfl⟩ := HR3.out.row.slice3
                  go_wp2
                  go_roundw
                  case rel => exact ⟨j + 1, p9, n9, c9', by omega, by go_num, rfl, HR3.out⟩
                  case measure => simp [intOf]; omega
              · obtain rfl : n2 = j := by omega
                have HRD : Hid (Rr w A m (.slice ao1 n1 cap1) (.slice ao2 n2 cap2) (g4 m) (.slice pp jj q) wr) := by
                  have h := HR.out
                  rw [← HN2.out, List.take_length] at h
                  rw [← HN2.out]
                  exact h
                obtain ⟨c0, c1, c2, c3, c4, c5, c6, c7, c8, c9, c10, c11, c12, c13, c14⟩ := mr_of HRD.out.bx
                clear HR HRC
                go_wp2_with fail
                refine (rnone_any m.mo m.ms m.mm _).mono ?_
                rintro e w3 ⟨rfl, hb3⟩
                have HR3 : Hid (Rr w A m (.slice ao1 n1 cap1) (.slice ao2 n2 cap2) (g4 m) (.slice pp jj q) w3) := HRD.out.step hb3
                have HXA : Hid (w3.heap[A]? = some (BMr m (.slice ao1 n1 cap1) (.slice ao2 n2 cap2))) := HR3.out.bx
                clear hb3 HRD c0 c1 c2 c3 c4 c5 c6 c7 c8 c9 c10 c11 c12 c13 c14
                cases hz : manZ m.mo m.ms m.mm with
                | true =>
                  have HG5 : Hid (g5 m = g4 m) := by show g5 m = _; unfold g5; rw [hz]; simp [opt]
                  have HR5 : Hid (Rr w A m (.slice ao1 n1 cap1) (.slice ao2 n2 cap2) (g5 m) (.slice pp jj q) w3) := by rw [HG5.out]; exact HR3.out
                  clear hz HR3 HG5
                  obtain ⟨c0, c1, c2, c3, c4, c5, c6, c7, c8, c9, c10, c11, c12, c13, c14⟩ := mr_of HR5.out.bx
                  cases hd : m.d.toList.isEmpty with
                  | true =>
                    have HG7 : Hid (fields m = g6 m) := by show fields m = _; unfold fields snz; rw [hd]; simp [opt]
                    by_cases hnu : 0 < m.nu
                    · have HG6 : Hid (g6 m = g5 m ++ [(12, Pl.numOut m.nu 2)]) := by
                        show g6 m = _
                        have : (m.nu != 0) = true := by simp; omega
                        unfold g6
                        rw [this]
                        simp [opt]
                      go_wp2_with fail
                      refine (rbytes_any m.nu 2 _ (by have := HNU.out; omega)).mono ?_
                      rintro e x5 ⟨rfl, hb5⟩
                      have HR55 : Hid (Rr w A m (.slice ao1 n1 cap1) (.slice ao2 n2 cap2) (g5 m) (.slice pp jj q) x5) := HR5.out.step hb5
                      clear hb5 HR5 c0 c1 c2 c3 c4 c5 c6 c7 c8 c9 c10 c11 c12 c13 c14
                      go_wp2_with (at_builtin; refine wpList_row _ rfl _ _ 130 rfl EF (fun _ => True) w.heap.size 134 i0 _ 24 Tryz.underlying130 hi hz0 hz1 hz2 rfl _ (g5 m) (by rfl) (HR55.out.step (below_alloc _ _)).row _ [(12, Pl.numOut m.nu 2)] (by rfl) (at_oneF (heap_alloc_new _ _)) (by have := HLN.out; unfold maxLen; simp only [List.length_cons, List.length_nil]; omega) (by have := HLN.out; simp only [List.length_cons, List.length_nil]; omega) (HR55.out.step (below_alloc _ _)).bel.size ?_; intro v6 w6 hrow6 hg6 hloc6; have hR6 := (HR55.out.step (below_alloc _ _)).app hrow6 hg6; rw [← HG6.out] at hR6; obtain ⟨p6, n6, d6, rfl⟩ := hR6.row.slice3; have HR6 : Hid (Rr w A m (.slice ao1 n1 cap1) (.slice ao2 n2 cap2) (g6 m) (.slice p6 n6 d6) w6) := hR6; clear hrow6 hg6 hloc6 hR6; obtain ⟨c0, c1, c2, c3, c4, c5, c6, c7, c8, c9, c10, c11, c12, c13, c14⟩ := mr_of HR6.out.bx)
                      have HR7 : Hid (Rr w A m (.slice ao1 n1 cap1) (.slice ao2 n2 cap2) (fields m) (.slice p6 n6 d6) w6) := by rw [HG7.out]; exact HR6.out
                      clear HR6 HR55
                      have HF : Hid (FieldsAt w6.heap.size w6 (.slice p6 n6 d6) (fields m)) := at_fields HR7.out.row.at
                      have HB7 : Hid (Below w.heap.size w w6) := HR7.out.bel
                      clear HR7
                      skip
                      refine (refPack_any _ _ _ HF.out HEN.out).mono ?_
                      rintro e y1 ⟨rfl, hy1⟩
                      rw [HTO.out]
                      have HB8 : Hid (Below w.heap.size w y1) := bup HB7.out hy1
                      clear hy1 HB7 HF c0 c1 c2 c3 c4 c5 c6 c7 c8 c9 c10 c11 c12 c13 c14
                      by_cases hl : 60000 < t.size + 4
                      · have hl' : (60000 : Int) < (t.size : Int) + 4 := by omega
                        clear hl
                        go_wp2
                        go_ret2
                        rw [(HOL.out (by omega)).1, (HOL.out (by omega)).2]
                        exact ⟨rfl, HB8.out⟩
                      · have hl' : decide ((60000 : Int) < (t.size : Int) + 4) = false := decide_eq_false (by omega)
                        go_wp2_with fail
                        refine (Po.refGuard_any _ _ (by omega)).mono ?_
                        rintro e y2 ⟨rfl, hy2⟩
                        have HB9 : Hid (Below w.heap.size w y2) := bup HB8.out hy2
                        clear hy2 HB8
                        go_wp2
                        go_ret2
                        rw [(HOS.out (by omega)).1, (HOS.out (by omega)).2]
                        exact ⟨rfl, HB9.out⟩
                    · have HR6 : Hid (Rr w A m (.slice ao1 n1 cap1) (.slice ao2 n2 cap2) (g6 m) (.slice pp jj q) w3) := by
                        have hnz := HNU.out
                        have e1 : (m.nu != 0) = false := by simp; omega
                        have e : g6 m = g5 m := by unfold g6; rw [e1]; simp [opt]
                        rw [e]
                        exact HR5.out
                      clear HR5
                      have HR7 : Hid (Rr w A m (.slice ao1 n1 cap1) (.slice ao2 n2 cap2) (fields m) (.slice pp jj q) w3) := by rw [HG7.out]; exact HR6.out
                      clear HR6
                      have HF : Hid (FieldsAt w3.heap.size w3 (.slice pp jj q) (fields m)) := at_fields HR7.out.row.at
                      have HB7 : Hid (Below w.heap.size w w3) := HR7.out.bel
                      clear HR7
                      go_wp2_with fail
                      refine (refPack_any _ _ _ HF.out HEN.out).mono ?_
                      rintro e y1 ⟨rfl, hy1⟩
                      rw [HTO.out]
                      have HB8 : Hid (Below w.heap.size w y1) := bup HB7.out hy1
                      clear hy1 HB7 HF c0 c1 c2 c3 c4 c5 c6 c7 c8 c9 c10 c11 c12 c13 c14
                      by_cases hl : 60000 < t.size + 4
                      · have hl' : (60000 : Int) < (t.size : Int) + 4 := by omega
                        clear hl
                        go_wp2
                        go_ret2
                        rw [(HOL.out (by omega)).1, (HOL.out (by omega)).2]
                        exact ⟨rfl, HB8.out⟩
                      · have hl' : decide ((60000 : Int) < (t.size : Int) + 4) = false := decide_eq_false (by omega)
                        go_wp2_with fail
                        refine (Po.refGuard_any _ _ (by omega)).mono ?_
                        rintro e y2 ⟨rfl, hy2⟩
                        have HB9 : Hid (Below w.heap.size w y2) := bup HB8.out hy2
                        clear hy2 HB8
                        go_wp2
                        go_ret2
                        rw [(HOS.out (by omega)).1, (HOS.out (by omega)).2]
                        exact ⟨rfl, HB9.out⟩
                  | false =>
                    have HG7 : Hid (fields m = g6 m ++ [(13, m.d)]) := by show fields m = _; unfold fields snz; rw [hd]; simp [opt]
                    by_cases hnu : 0 < m.nu
                    · have HG6 : Hid (g6 m = g5 m ++ [(12, Pl.numOut m.nu 2)]) := by
                        show g6 m = _
                        have : (m.nu != 0) = true := by simp; omega
                        unfold g6
                        rw [this]
                        simp [opt]
                      go_wp2_with fail
                      refine (rbytes_any m.nu 2 _ (by have := HNU.out; omega)).mono ?_
                      rintro e x5 ⟨rfl, hb5⟩
                      have HR55 : Hid (Rr w A m (.slice ao1 n1 cap1) (.slice ao2 n2 cap2) (g5 m) (.slice pp jj q) x5) := HR5.out.step hb5
                      clear hb5 HR5 c0 c1 c2 c3 c4 c5 c6 c7 c8 c9 c10 c11 c12 c13 c14
                      go_wp2_with (first | (at_builtin; refine wpList_row _ rfl _ _ 130 rfl EF (fun _ => True) w.heap.size 134 i0 _ 24 Tryz.underlying130 hi hz0 hz1 hz2 rfl _ (g5 m) (by rfl) (HR55.out.step (below_alloc _ _)).row _ [(12, Pl.numOut m.nu 2)] (by rfl) (at_oneF (heap_alloc_new _ _)) (by have := HLN.out; unfold maxLen; simp only [List.length_cons, List.length_nil]; omega) (by have := HLN.out; simp only [List.length_cons, List.length_nil]; omega) (HR55.out.step (below_alloc _ _)).bel.size ?_; intro v6 w6 hrow6 hg6 hloc6; have hR6 := (HR55.out.step (below_alloc _ _)).app hrow6 hg6; rw [← HG6.out] at hR6; obtain ⟨p6, n6, d6, rfl⟩ := hR6.row.slice3; have HR6 : Hid (Rr w A m (.slice ao1 n1 cap1) (.slice ao2 n2 cap2) (g6 m) (.slice p6 n6 d6) w6) := hR6; clear hrow6 hg6 hloc6 hR6; obtain ⟨c0, c1, c2, c3, c4, c5, c6, c7, c8, c9, c10, c11, c12, c13, c14⟩ := mr_of HR6.out.bx) | (at_builtin; refine wpList_row _ rfl _ _ 130 rfl EF (fun _ => True) w.heap.size 134 i0 _ 24 Tryz.underlying130 hi hz0 hz1 hz2 rfl _ (g6 m) (by rfl) (HR6.out.step (below_alloc _ _)).row _ [(13, m.d)] (by rfl) (at_oneF (heap_alloc_new _ _)) (by have := HLN.out; unfold maxLen; simp only [List.length_cons, List.length_nil]; omega) (by have := HLN.out; simp only [List.length_cons, List.length_nil]; omega) (HR6.out.step (below_alloc _ _)).bel.size ?_; intro v7 w7 hrow7 hg7 hloc7; have hR7 := (HR6.out.step (below_alloc _ _)).app hrow7 hg7; rw [← HG7.out] at hR7; obtain ⟨p7, n7, d7, rfl⟩ := hR7.row.slice3; have HR7 : Hid (Rr w A m (.slice ao1 n1 cap1) (.slice ao2 n2 cap2) (fields m) (.slice p7 n7 d7) w7) := hR7; clear hrow7 hg7 hloc7 hR7; obtain ⟨c0, c1, c2, c3, c4, c5, c6, c7, c8, c9, c10, c11, c12, c13, c14⟩ := mr_of HR7.out.bx))
                      clear HR6 HR55
                      have HF : Hid (FieldsAt w7.heap.size w7 (.slice p7 n7 d7) (fields m)) := at_fields HR7.out.row.at
                      have HB7 : Hid (Below w.heap.size w w7) := HR7.out.bel
                      clear HR7
                      skip
                      refine (refPack_any _ _ _ HF.out HEN.out).mono ?_
                      rintro e y1 ⟨rfl, hy1⟩
                      rw [HTO.out]
                      have HB8 : Hid (Below w.heap.size w y1) := bup HB7.out hy1
                      clear hy1 HB7 HF c0 c1 c2 c3 c4 c5 c6 c7 c8 c9 c10 c11 c12 c13 c14
                      by_cases hl : 60000 < t.size + 4
                      · have hl' : (60000 : Int) < (t.size : Int) + 4 := by omega
                        clear hl
                        go_wp2
                        go_ret2
                        rw [(HOL.out (by omega)).1, (HOL.out (by omega)).2]
                        exact ⟨rfl, HB8.out⟩
                      · have hl' : decide ((60000 : Int) < (t.size : Int) + 4) = false := decide_eq_false (by omega)
                        go_wp2_with fail
                        refine (Po.refGuard_any _ _ (by omega)).mono ?_
                        rintro e y2 ⟨rfl, hy2⟩
                        have HB9 : Hid (Below w.heap.size w y2) := bup HB8.out hy2
                        clear hy2 HB8
                        go_wp2
                        go_ret2
                        rw [(HOS.out (by omega)).1, (HOS.out (by omega)).2]
                        exact ⟨rfl, HB9.out⟩
                    · have HR6 : Hid (Rr w A m (.slice ao1 n1 cap1) (.slice ao2 n2 cap2) (g6 m) (.slice pp jj q) w3) := by
                        have hnz := HNU.out
                        have e1 : (m.nu != 0) = false := by simp; omega
                        have e : g6 m = g5 m := by unfold g6; rw [e1]; simp [opt]
                        rw [e]
                        exact HR5.out
                      clear HR5
                      go_wp2_with (at_builtin; refine wpList_row _ rfl _ _ 130 rfl EF (fun _ => True) w.heap.size 134 i0 _ 24 Tryz.underlying130 hi hz0 hz1 hz2 rfl _ (g6 m) (by rfl) (HR6.out.step (below_alloc _ _)).row _ [(13, m.d)] (by rfl) (at_oneF (heap_alloc_new _ _)) (by have := HLN.out; unfold maxLen; simp only [List.length_cons, List.length_nil]; omega) (by have := HLN.out; simp only [List.length_cons, List.length_nil]; omega) (HR6.out.step (below_alloc _ _)).bel.size ?_; intro v7 w7 hrow7 hg7 hloc7; have hR7 := (HR6.out.step (below_alloc _ _)).app hrow7 hg7; rw [← HG7.out] at hR7; obtain ⟨p7, n7, d7, rfl⟩ := hR7.row.slice3; have HR7 : Hid (Rr w A m (.slice ao1 n1 cap1) (.slice ao2 n2 cap2) (fields m) (.slice p7 n7 d7) w7) := hR7; clear hrow7 hg7 hloc7 hR7; obtain ⟨c0, c1, c2, c3, c4, c5, c6, c7, c8, c9, c10, c11, c12, c13, c14⟩ := mr_of HR7.out.bx)
                      clear HR6
                      have HF : Hid (FieldsAt w7.heap.size w7 (.slice p7 n7 d7) (fields m)) := at_fields HR7.out.row.at
                      have HB7 : Hid (Below w.heap.size w w7) := HR7.out.bel
                      clear HR7
                      skip
                      refine (refPack_any _ _ _ HF.out HEN.out).mono ?_
                      rintro e y1 ⟨rfl, hy1⟩
                      rw [HTO.out]
                      have HB8 : Hid (Below w.heap.size w y1) := bup HB7.out hy1
                      clear hy1 HB7 HF c0 c1 c2 c3 c4 c5 c6 c7 c8 c9 c10 c11 c12 c13 c14
                      by_cases hl : 60000 < t.size + 4
                      · have hl' : (60000 : Int) < (t.size : Int) + 4 := by omega
                        clear hl
                        go_wp2
                        go_ret2
                        rw [(HOL.out (by omega)).1, (HOL.out (by omega)).2]
                        exact ⟨rfl, HB8.out⟩
                      · have hl' : decide ((60000 : Int) < (t.size : Int) + 4) = false := decide_eq_false (by omega)
                        go_wp2_with fail
                        refine (Po.refGuard_any _ _ (by omega)).mono ?_
                        rintro e y2 ⟨rfl, hy2⟩
                        have HB9 : Hid (Below w.heap.size w y2) := bup HB8.out hy2
                        clear hy2 HB8
                        go_wp2
                        go_ret2
                        rw [(HOS.out (by omega)).1, (HOS.out (by omega)).2]
                        exact ⟨rfl, HB9.out⟩

                | false =>
                  have HG5 : Hid (g5 m = g4 m ++ [(11, manBy m.mo m.ms m.mm)]) := by show g5 m = _; unfold g5; rw [hz]; simp [opt]
                  obtain ⟨s1, hs1⟩ : ∃ s, Pl.numOut m.mo 6 = s := ⟨_, rfl⟩
                  obtain ⟨s2, hs2⟩ : ∃ s, Pl.numOut m.ms 2 = s := ⟨_, rfl⟩
                  obtain ⟨s3, hs3⟩ : ∃ s, Pl.numOut m.mm 4 = s := ⟨_, rfl⟩
                  have z1 : s1.size ≤ 6 := by rw [← hs1]; exact numOut_le m.mo 6 (by decide) (by decide)
                  have z2 : s2.size ≤ 2 := by rw [← hs2]; exact numOut_le m.ms 2 (by decide) (by decide)
                  have z3 : s3.size ≤ 4 := by rw [← hs3]; exact numOut_le m.mm 4 (by decide) (by decide)
                  have HIB : Hid (manBy m.mo m.ms m.mm = s1 ++ s2 ++ s3) := by show manBy _ _ _ = _; unfold manBy; rw [hs1, hs2, hs3]
                  have q1 : ¬ 9223372036854775807 < s1.size + s2.size := by omega
                  have q2 : ¬ 9223372036854775807 < s1.size + s2.size + s3.size := by omega
                  have HC1 : Hid (∀ V, Calls Tryz.prog 94 #[.int .i64 m.mo, .int .i64 6] V fun e w' => e = .returned (.string s1) ∧ Below V.heap.size V w') := fun V => by rw [← hs1]; exact rbytes_any _ _ V HMN.out.1
                  have HC2 : Hid (∀ V, Calls Tryz.prog 94 #[.int .i64 m.ms, .int .i64 2] V fun e w' => e = .returned (.string s2) ∧ Below V.heap.size V w') := fun V => by rw [← hs2]; exact rbytes_any _ _ V HMN.out.2.1
                  have HC3 : Hid (∀ V, Calls Tryz.prog 94 #[.int .i64 m.mm, .int .i64 4] V fun e w' => e = .returned (.string s3) ∧ Below V.heap.size V w') := fun V => by rw [← hs3]; exact rbytes_any _ _ V HMN.out.2.2
                  have HST : Hid (∀ U : World, U.heap[A]? = some (BMr m (.slice ao1 n1 cap1) (.slice ao2 n2 cap2)) → U.cell? ⟨A, 10, none⟩ = some (.int .i64 m.mo) ∧ U.cell? ⟨A, 11, none⟩ = some (.int .i64 m.ms) ∧ U.cell? ⟨A, 12, none⟩ = some (.int .i64 m.mm)) := fun U hU => by obtain ⟨c0, c1, c2, c3, c4, c5, c6, c7, c8, c9, c10, c11, c12, c13, c14⟩ := mr_of hU; exact ⟨c10, c11, c12⟩
                  clear hz hs1 hs2 hs3 z1 z2 z3
                  go_wp2_with fail
                  go_region_held3 (fun U => U.cell? ⟨A, 10, none⟩ = some (.int .i64 m.mo) ∧ U.cell? ⟨A, 11, none⟩ = some (.int .i64 m.ms) ∧ U.cell? ⟨A, 12, none⟩ = some (.int .i64 m.mm)) (first | exact HST.out _ (blk HXA.out (bel_drew (Below.refl _ _))) | exact HST.out _ (blk HXA.out (by with_reducible assumption)) | exact HST.out _ (blk (blk HXA.out (by with_reducible assumption)) (below_alloc _ _)) | exact HST.out _ (by with_reducible assumption)) (first
                    | (go_at_call 94; with_reducible refine (HC1.out _).mono ?_; rintro e x1 ⟨rfl, hb1⟩; have hb1' : Below w3.heap.size w3 x1 := bup (by first | with_reducible assumption | exact bel_drew (Below.refl _ _)) hb1; clear hb1)
                    | (go_at_call 94; with_reducible refine (HC2.out _).mono ?_; rintro e x2 ⟨rfl, hb2⟩; have hb2' : Below w3.heap.size w3 x2 := bup (by first | with_reducible assumption | exact bel_drew (Below.refl _ _)) hb2; clear hb2)
                    | (go_at_call 94; with_reducible refine (HC3.out _).mono ?_; rintro e x3 ⟨rfl, hb3⟩; have hb3' : Below w3.heap.size w3 x3 := bup (by first | with_reducible assumption | exact bel_drew (Below.refl _ _)) hb3; clear hb3)
                    | (refine step_app (by rfl) _ _ (by rfl) i0 hi hz0 hz1 hz2 HR3.out (by with_reducible assumption) 11 (s1 ++ s2 ++ s3) (by rfl) (by rfl) (by have := HLN.out; omega) ?_; intro v9 w9 hR9 hbk9; have hxx : w9.heap[A]? = some (BMr m (.slice ao1 n1 cap1) (.slice ao2 n2 cap2)) := hR9.bx))
                  all_goals
                    have hR5 := hR9
                    rw [← HIB.out, ← HG5.out] at hR5
                    have HR5 : Hid (Rr w A m (.slice ao1 n1 cap1) (.slice ao2 n2 cap2) (g5 m) v9 w9) := hR5
                    clear hR9 hbk9 hxx hR5 HR3 HXA
                    obtain ⟨p9, n9, c9', rfl⟩ := HR5.out.row.slice3
                    obtain ⟨c0, c1, c2, c3, c4, c5, c6, c7, c8, c9, c10, c11, c12, c13, c14⟩ := mr_of HR5.out.bx
                    cases hd : m.d.toList.isEmpty with
                    | true =>
                      have HG7 : Hid (fields m = g6 m) := by show fields m = _; unfold fields snz; rw [hd]; simp [opt]
                      by_cases hnu : 0 < m.nu
                      · have HG6 : Hid (g6 m = g5 m ++ [(12, Pl.numOut m.nu 2)]) := by
                          show g6 m = _
                          have : (m.nu != 0) = true := by simp; omega
                          unfold g6
                          rw [this]
                          simp [opt]
                        go_wp2_with fail
                        refine (rbytes_any m.nu 2 _ (by have := HNU.out; omega)).mono ?_
                        rintro e x5 ⟨rfl, hb5⟩
                        have HR55 : Hid (Rr w A m (.slice ao1 n1 cap1) (.slice ao2 n2 cap2) (g5 m) (.slice p9 n9 c9') x5) := HR5.out.step hb5
                        clear hb5 HR5 c0 c1 c2 c3 c4 c5 c6 c7 c8 c9 c10 c11 c12 c13 c14
                        go_wp2_with (at_builtin; refine wpList_row _ rfl _ _ 130 rfl EF (fun _ => True) w.heap.size 134 i0 _ 24 Tryz.underlying130 hi hz0 hz1 hz2 rfl _ (g5 m) (by rfl) (HR55.out.step (below_alloc _ _)).row _ [(12, Pl.numOut m.nu 2)] (by rfl) (at_oneF (heap_alloc_new _ _)) (by have := HLN.out; unfold maxLen; simp only [List.length_cons, List.length_nil]; omega) (by have := HLN.out; simp only [List.length_cons, List.length_nil]; omega) (HR55.out.step (below_alloc _ _)).bel.size ?_; intro v6 w6 hrow6 hg6 hloc6; have hR6 := (HR55.out.step (below_alloc _ _)).app hrow6 hg6; rw [← HG6.out] at hR6; obtain ⟨p6, n6, d6, rfl⟩ := hR6.row.slice3; have HR6 : Hid (Rr w A m (.slice ao1 n1 cap1) (.slice ao2 n2 cap2) (g6 m) (.slice p6 n6 d6) w6) := hR6; clear hrow6 hg6 hloc6 hR6; obtain ⟨c0, c1, c2, c3, c4, c5, c6, c7, c8, c9, c10, c11, c12, c13, c14⟩ := mr_of HR6.out.bx)
                        have HR7 : Hid (Rr w A m (.slice ao1 n1 cap1) (.slice ao2 n2 cap2) (fields m) (.slice p6 n6 d6) w6) := by rw [HG7.out]; exact HR6.out
                        clear HR6 HR55
                        have HF : Hid (FieldsAt w6.heap.size w6 (.slice p6 n6 d6) (fields m)) := at_fields HR7.out.row.at
                        have HB7 : Hid (Below w.heap.size w w6) := HR7.out.bel
                        clear HR7
                        skip
                        refine (refPack_any _ _ _ HF.out HEN.out).mono ?_
                        rintro e y1 ⟨rfl, hy1⟩
                        rw [HTO.out]
                        have HB8 : Hid (Below w.heap.size w y1) := bup HB7.out hy1
                        clear hy1 HB7 HF c0 c1 c2 c3 c4 c5 c6 c7 c8 c9 c10 c11 c12 c13 c14
                        by_cases hl : 60000 < t.size + 4
                        · have hl' : (60000 : Int) < (t.size : Int) + 4 := by omega
                          clear hl
                          go_wp2
                          go_ret2
                          rw [(HOL.out (by omega)).1, (HOL.out (by omega)).2]
                          exact ⟨rfl, HB8.out⟩
                        · have hl' : decide ((60000 : Int) < (t.size : Int) + 4) = false := decide_eq_false (by omega)
                          go_wp2_with fail
                          refine (Po.refGuard_any _ _ (by omega)).mono ?_
                          rintro e y2 ⟨rfl, hy2⟩
                          have HB9 : Hid (Below w.heap.size w y2) := bup HB8.out hy2
                          clear hy2 HB8
                          go_wp2
                          go_ret2
                          rw [(HOS.out (by omega)).1, (HOS.out (by omega)).2]
                          exact ⟨rfl, HB9.out⟩
                      · have HR6 : Hid (Rr w A m (.slice ao1 n1 cap1) (.slice ao2 n2 cap2) (g6 m) (.slice p9 n9 c9') w9) := by
                          have hnz := HNU.out
                          have e1 : (m.nu != 0) = false := by simp; omega
                          have e : g6 m = g5 m := by unfold g6; rw [e1]; simp [opt]
                          rw [e]
                          exact HR5.out
                        clear HR5
                        have HR7 : Hid (Rr w A m (.slice ao1 n1 cap1) (.slice ao2 n2 cap2) (fields m) (.slice p9 n9 c9') w9) := by rw [HG7.out]; exact HR6.out
                        clear HR6
                        have HF : Hid (FieldsAt w9.heap.size w9 (.slice p9 n9 c9') (fields m)) := at_fields HR7.out.row.at
                        have HB7 : Hid (Below w.heap.size w w9) := HR7.out.bel
                        clear HR7
                        go_wp2_with fail
                        refine (refPack_any _ _ _ HF.out HEN.out).mono ?_
                        rintro e y1 ⟨rfl, hy1⟩
                        rw [HTO.out]
                        have HB8 : Hid (Below w.heap.size w y1) := bup HB7.out hy1
                        clear hy1 HB7 HF c0 c1 c2 c3 c4 c5 c6 c7 c8 c9 c10 c11 c12 c13 c14
                        by_cases hl : 60000 < t.size + 4
                        · have hl' : (60000 : Int) < (t.size : Int) + 4 := by omega
                          clear hl
                          go_wp2
                          go_ret2
                          rw [(HOL.out (by omega)).1, (HOL.out (by omega)).2]
                          exact ⟨rfl, HB8.out⟩
                        · have hl' : decide ((60000 : Int) < (t.size : Int) + 4) = false := decide_eq_false (by omega)
                          go_wp2_with fail
                          refine (Po.refGuard_any _ _ (by omega)).mono ?_
                          rintro e y2 ⟨rfl, hy2⟩
                          have HB9 : Hid (Below w.heap.size w y2) := bup HB8.out hy2
                          clear hy2 HB8
                          go_wp2
                          go_ret2
                          rw [(HOS.out (by omega)).1, (HOS.out (by omega)).2]
                          exact ⟨rfl, HB9.out⟩
                    | false =>
                      have HG7 : Hid (fields m = g6 m ++ [(13, m.d)]) := by show fields m = _; unfold fields snz; rw [hd]; simp [opt]
                      by_cases hnu : 0 < m.nu
                      · have HG6 : Hid (g6 m = g5 m ++ [(12, Pl.numOut m.nu 2)]) := by
                          show g6 m = _
                          have : (m.nu != 0) = true := by simp; omega
                          unfold g6
                          rw [this]
                          simp [opt]
                        go_wp2_with fail
                        refine (rbytes_any m.nu 2 _ (by have := HNU.out; omega)).mono ?_
                        rintro e x5 ⟨rfl, hb5⟩
                        have HR55 : Hid (Rr w A m (.slice ao1 n1 cap1) (.slice ao2 n2 cap2) (g5 m) (.slice p9 n9 c9') x5) := HR5.out.step hb5
                        clear hb5 HR5 c0 c1 c2 c3 c4 c5 c6 c7 c8 c9 c10 c11 c12 c13 c14
                        go_wp2_with (first | (at_builtin; refine wpList_row _ rfl _ _ 130 rfl EF (fun _ => True) w.heap.size 134 i0 _ 24 Tryz.underlying130 hi hz0 hz1 hz2 rfl _ (g5 m) (by rfl) (HR55.out.step (below_alloc _ _)).row _ [(12, Pl.numOut m.nu 2)] (by rfl) (at_oneF (heap_alloc_new _ _)) (by have := HLN.out; unfold maxLen; simp only [List.length_cons, List.length_nil]; omega) (by have := HLN.out; simp only [List.length_cons, List.length_nil]; omega) (HR55.out.step (below_alloc _ _)).bel.size ?_; intro v6 w6 hrow6 hg6 hloc6; have hR6 := (HR55.out.step (below_alloc _ _)).app hrow6 hg6; rw [← HG6.out] at hR6; obtain ⟨p6, n6, d6, rfl⟩ := hR6.row.slice3; have HR6 : Hid (Rr w A m (.slice ao1 n1 cap1) (.slice ao2 n2 cap2) (g6 m) (.slice p6 n6 d6) w6) := hR6; clear hrow6 hg6 hloc6 hR6; obtain ⟨c0, c1, c2, c3, c4, c5, c6, c7, c8, c9, c10, c11, c12, c13, c14⟩ := mr_of HR6.out.bx) | (at_builtin; refine wpList_row _ rfl _ _ 130 rfl EF (fun _ => True) w.heap.size 134 i0 _ 24 Tryz.underlying130 hi hz0 hz1 hz2 rfl _ (g6 m) (by rfl) (HR6.out.step (below_alloc _ _)).row _ [(13, m.d)] (by rfl) (at_oneF (heap_alloc_new _ _)) (by have := HLN.out; unfold maxLen; simp only [List.length_cons, List.length_nil]; omega) (by have := HLN.out; simp only [List.length_cons, List.length_nil]; omega) (HR6.out.step (below_alloc _ _)).bel.size ?_; intro v7 w7 hrow7 hg7 hloc7; have hR7 := (HR6.out.step (below_alloc _ _)).app hrow7 hg7; rw [← HG7.out] at hR7; obtain ⟨p7, n7, d7, rfl⟩ := hR7.row.slice3; have HR7 : Hid (Rr w A m (.slice ao1 n1 cap1) (.slice ao2 n2 cap2) (fields m) (.slice p7 n7 d7) w7) := hR7; clear hrow7 hg7 hloc7 hR7; obtain ⟨c0, c1, c2, c3, c4, c5, c6, c7, c8, c9, c10, c11, c12, c13, c14⟩ := mr_of HR7.out.bx))
                        clear HR6 HR55
                        have HF : Hid (FieldsAt w7.heap.size w7 (.slice p7 n7 d7) (fields m)) := at_fields HR7.out.row.at
                        have HB7 : Hid (Below w.heap.size w w7) := HR7.out.bel
                        clear HR7
                        skip
                        refine (refPack_any _ _ _ HF.out HEN.out).mono ?_
                        rintro e y1 ⟨rfl, hy1⟩
                        rw [HTO.out]
                        have HB8 : Hid (Below w.heap.size w y1) := bup HB7.out hy1
                        clear hy1 HB7 HF c0 c1 c2 c3 c4 c5 c6 c7 c8 c9 c10 c11 c12 c13 c14
                        by_cases hl : 60000 < t.size + 4
                        · have hl' : (60000 : Int) < (t.size : Int) + 4 := by omega
                          clear hl
                          go_wp2
                          go_ret2
                          rw [(HOL.out (by omega)).1, (HOL.out (by omega)).2]
                          exact ⟨rfl, HB8.out⟩
                        · have hl' : decide ((60000 : Int) < (t.size : Int) + 4) = false := decide_eq_false (by omega)
                          go_wp2_with fail
                          refine (Po.refGuard_any _ _ (by omega)).mono ?_
                          rintro e y2 ⟨rfl, hy2⟩
                          have HB9 : Hid (Below w.heap.size w y2) := bup HB8.out hy2
                          clear hy2 HB8
                          go_wp2
                          go_ret2
                          rw [(HOS.out (by omega)).1, (HOS.out (by omega)).2]
                          exact ⟨rfl, HB9.out⟩
                      · have HR6 : Hid (Rr w A m (.slice ao1 n1 cap1) (.slice ao2 n2 cap2) (g6 m) (.slice p9 n9 c9') w9) := by
                          have hnz := HNU.out
                          have e1 : (m.nu != 0) = false := by simp; omega
                          have e : g6 m = g5 m := by unfold g6; rw [e1]; simp [opt]
                          rw [e]
                          exact HR5.out
                        clear HR5
                        go_wp2_with (at_builtin; refine wpList_row _ rfl _ _ 130 rfl EF (fun _ => True) w.heap.size 134 i0 _ 24 Tryz.underlying130 hi hz0 hz1 hz2 rfl _ (g6 m) (by rfl) (HR6.out.step (below_alloc _ _)).row _ [(13, m.d)] (by rfl) (at_oneF (heap_alloc_new _ _)) (by have := HLN.out; unfold maxLen; simp only [List.length_cons, List.length_nil]; omega) (by have := HLN.out; simp only [List.length_cons, List.length_nil]; omega) (HR6.out.step (below_alloc _ _)).bel.size ?_; intro v7 w7 hrow7 hg7 hloc7; have hR7 := (HR6.out.step (below_alloc _ _)).app hrow7 hg7; rw [← HG7.out] at hR7; obtain ⟨p7, n7, d7, rfl⟩ := hR7.row.slice3; have HR7 : Hid (Rr w A m (.slice ao1 n1 cap1) (.slice ao2 n2 cap2) (fields m) (.slice p7 n7 d7) w7) := hR7; clear hrow7 hg7 hloc7 hR7; obtain ⟨c0, c1, c2, c3, c4, c5, c6, c7, c8, c9, c10, c11, c12, c13, c14⟩ := mr_of HR7.out.bx)
                        clear HR6
                        have HF : Hid (FieldsAt w7.heap.size w7 (.slice p7 n7 d7) (fields m)) := at_fields HR7.out.row.at
                        have HB7 : Hid (Below w.heap.size w w7) := HR7.out.bel
                        clear HR7
                        skip
                        refine (refPack_any _ _ _ HF.out HEN.out).mono ?_
                        rintro e y1 ⟨rfl, hy1⟩
                        rw [HTO.out]
                        have HB8 : Hid (Below w.heap.size w y1) := bup HB7.out hy1
                        clear hy1 HB7 HF c0 c1 c2 c3 c4 c5 c6 c7 c8 c9 c10 c11 c12 c13 c14
                        by_cases hl : 60000 < t.size + 4
                        · have hl' : (60000 : Int) < (t.size : Int) + 4 := by omega
                          clear hl
                          go_wp2
                          go_ret2
                          rw [(HOL.out (by omega)).1, (HOL.out (by omega)).2]
                          exact ⟨rfl, HB8.out⟩
                        · have hl' : decide ((60000 : Int) < (t.size : Int) + 4) = false := decide_eq_false (by omega)
                          go_wp2_with fail
                          refine (Po.refGuard_any _ _ (by omega)).mono ?_
                          rintro e y2 ⟨rfl, hy2⟩
                          have HB9 : Hid (Below w.heap.size w y2) := bup HB8.out hy2
                          clear hy2 HB8
                          go_wp2
                          go_ret2
                          rw [(HOS.out (by omega)).1, (HOS.out (by omega)).2]
                          exact ⟨rfl, HB9.out⟩

end Go.Proofs.YtkdhbjmpjbdobaaGreatDoor
