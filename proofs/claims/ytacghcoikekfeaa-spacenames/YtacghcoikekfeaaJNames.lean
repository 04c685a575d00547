/-
  SpaceNames.
-/
import Derived.Test.YtacghcoikekfeaaM12
namespace Go.Proofs.Ytacghcoikekfeaa
open Go.ChangeShapes Go.WideShapes Go.ChangeAt Go.RowKit Go.Deep It
set_option maxRecDepth 100000
set_option maxRecDepth 100000
/-- What is shown of all ways through a drawn region, once. -/
structure Shut (K : Prop) : Prop where
  out : K
theorem cut_in {G K : Prop} (k : Shut K → G) (c : K) : G := k ⟨c⟩
theorem setBH {w : World} {A : Nat} {a b c d : Int} (h : w.heap[A]? = some (BH a b)) : ((w.setCell ⟨A, 0, none⟩ (.int .i64 c)).setCell ⟨A, 1, none⟩ (.int .i64 d)).heap[A]? = some (BH c d) := by
  have h1 : (w.setCell ⟨A, 0, none⟩ (.int .i64 c)).heap[A]? = some (BH c b) := by
    rw [setCell_eq_setRow w A 0 _ _ _ _ h, setRow_heap w A _ _ _ _ h]
    rfl
  rw [setCell_eq_setRow _ A 1 _ _ _ _ h1, setRow_heap _ A _ _ _ _ h1]
  rfl
theorem tab_setC {S : Nat → Prop} {w : World} {v : Value} {L : List Rw} (h : TabAt S w v L) {p : Addr} (hp : ¬ S p.block) (u : Value) : TabAt S (w.setCell p u) v L := ⟨h.1.setCell hp u, fun x hx => (h.2 x hx).setCell hp u⟩
theorem hand_not (a b : Int) (w : World) : (binOp .neq 24 (.agg #[.int .i64 a, .int .i64 b]) (.agg #[.int .i64 a, .int .i64 b])).run Try.prog w = .ok (.bool false) w := by
  have t0 : (a == a) = true := beq_self_eq_true _
  have t1 : (b == b) = true := beq_self_eq_true _
  go_simp
theorem filter_at {p x : ByteArray} {A B : List ByteArray} (h : A.filter (Sp.nq p) = B) {j : Nat} (hx : A[j]? = some x) (hn : x ≠ p) : B[((A.take j).filter (Sp.nq p)).length]? = some x := by
  have e : A = A.take j ++ x :: A.drop (j + 1) := by
    have hj := (List.getElem?_eq_some_iff.1 hx).1
    have hx' := (List.getElem?_eq_some_iff.1 hx).2
    conv => lhs; rw [← List.take_append_drop j A]
    rw [List.drop_eq_getElem_cons hj, hx']
  have h2 : A.filter (Sp.nq p) = (A.take j).filter (Sp.nq p) ++ x :: (A.drop (j + 1)).filter (Sp.nq p) := by
    conv => lhs; rw [e]
    rw [List.filter_append, List.filter_cons_of_pos (Sp.nq_iff.2 hn)]
  rw [← h, h2, List.getElem?_append_right (Nat.le_refl _), Nat.sub_self]
  rfl
theorem filter_step {p x : ByteArray} {A : List ByteArray} {j : Nat} (hx : A[j]? = some x) : ((A.take (j + 1)).filter (Sp.nq p)).length = ((A.take j).filter (Sp.nq p)).length + (if x = p then 0 else 1) := by
  rw [List.take_add_one, hx, List.filter_append, List.length_append]
  by_cases h : x = p
  · rw [if_pos h]
    have : Sp.nq p x = false := by
      cases hq : Sp.nq p x with
      | false => rfl
      | true => exact absurd h (Sp.nq_iff.1 hq)
    simp [this]
  · rw [if_neg h]
    simp [Sp.nq_iff.2 h]
theorem filter_le {p : ByteArray} {A B : List ByteArray} (h : A.filter (Sp.nq p) = B) (j : Nat) : ((A.take j).filter (Sp.nq p)).length ≤ B.length := by
  rw [← h]
  exact (List.Sublist.filter _ (List.take_sublist j A)).length_le
set_option maxHeartbeats 16000000 in
theorem spaceNames_any (v : Value) (Q : List Stp) (a b c d : Int) (s s2 : ByteArray) (k0 st : Int) (w : World) (hv : AtW EQ w v Q) (hok : okS Q) (hs : s.size ≤ maxLen) (hs2 : s2.size ≤ maxLen) :
    Calls Try.prog 3 #[v, VC a b c d s s2 k0 st] w fun e w' => e = .returned (.bool true) ∧ Below w.heap.size w w' := by
  obtain ⟨ao, cap, rfl, hm, hx⟩ := hv.open
  clear hv
  unfold maxLen at hm
  obtain ⟨N, hN⟩ : ∃ N, Q.length = N := ⟨_, rfl⟩
  rw [hN] at hm ⊢
  have HN : Hid (Q.length = N) := hN
  have HX : Hid (OverQ w ao Q) := hx
  have HS : Hid (okS Q) := hok
  have HSM : Hid (s.size ≤ maxLen ∧ s2.size ≤ maxLen) := ⟨hs, hs2⟩
  clear hN hx hs hs2 hok
  obtain ⟨W0, hW0⟩ : ∃ W0, W0 = w.alloc (BC a b c d s s2 k0 st) := ⟨_, rfl⟩
  have HB0 : Hid (Below w.heap.size w W0) := by show Below _ _ _; rw [hW0]; exact (Below.refl _ _).alloc (Nat.le_refl _) _
  have HX0 : Hid (W0.heap[w.heap.size]? = some (BC a b c d s s2 k0 st)) := by show W0.heap[w.heap.size]? = _; rw [hW0]; exact heap_alloc_new _ _
  go_enter Try.func3, Try.ntmps3
  go_wp2_with fail
  rw [← hW0]
  clear hW0
  refine (new_any _).mono ?_
  rintro e w1 ⟨u1, L1, rfl, ht1, hp1, hb1⟩
  obtain ⟨p1, z1, hu1, -, -⟩ := ht1.open
  obtain ⟨m1, hm1⟩ : ∃ m, L1.length = m := ⟨_, rfl⟩
  rw [hm1] at hu1
  subst hu1
  have HT1 : Hid (TabW w1 (.slice p1 m1 z1) L1 ∧ Sp.isSp (pl L1) = true) := ⟨tab_wide ht1, by rw [hp1]; exact Sp.isSp_new⟩
  have HB1 : Hid (Below w.heap.size w w1) := HB0.out.trans (hb1.mono HB0.out.size)
  have HX1 : Hid (w1.heap[w.heap.size]? = some (BC a b c d s s2 k0 st)) := (hb1.block _ (Array.getElem?_eq_some_iff.1 HX0.out).1).trans HX0.out
  clear ht1 hp1 hm1 hb1
  by_cases h40 : (40 : Int) < (N : Int)
  · go_wp2_with fail
    refine (little_any _).mono ?_
    rintro e w7 ⟨rfl, hb7⟩
    have HB7 : Hid (Below w.heap.size w w7) := HB1.out.trans (hb7.mono HB1.out.size)
    clear hb7
    go_wp2
    go_ret
    exact ⟨rfl, HB7.out⟩
  go_wp2
  go_loopw [5, 33] (fun t i wr => ∃ (k : Nat) (p : Option Addr) (m z : Nat) (T : List Rw), k ≤ N ∧ i = .int .i64 k ∧ t = .slice p m z ∧ Hid (TabW wr (.slice p m z) T ∧ Sp.isSp (pl T) = true) ∧ Hid (Below w.heap.size w wr) ∧ Hid (wr.heap[w.heap.size]? = some (BC a b c d s s2 k0 st))) (fun _ i _ => N - (intOf i).toNat)
  case atStart => exact ⟨0, p1, m1, z1, L1, Nat.zero_le _, rfl, rfl, HT1, HB1, HX1⟩
  case round =>
    obtain ⟨k, p, m, z, T, hk, rfl, rfl, HT, HB, HXR⟩ := hrel
    have hsz := HB.out.size
    have hlx := (Array.getElem?_eq_some_iff.1 HXR.out).1
    by_cases hlt : k < N
    · obtain ⟨x, hxk⟩ : ∃ x, Q[k]? = some x := ⟨_, List.getElem?_eq_getElem (by rw [HN.out]; exact hlt)⟩
      obtain ⟨bq, off, rfl, -, hB, hc⟩ := HX.out k x hxk
      have HSX := HS.out x (List.mem_of_getElem? hxk)
      obtain ⟨q, d', t, n1, n2⟩ := x
      have HSY : Hid (n1.size ≤ maxLen ∧ n2.size ≤ maxLen) := HSX
      have aa := fun j u hj => (HB.out.cell (p := ⟨bq, off + (k * EQ.sz + j), none⟩) hB).trans (hc j u hj)
      have c0 : wr.cell? ⟨bq, off + k * 5, none⟩ = some (.int .i64 q) := aa 0 _ rfl
      have c1 : wr.cell? ⟨bq, off + k * 5 + 1, none⟩ = some (.int .i64 d') := aa 1 _ rfl
      have c2 : wr.cell? ⟨bq, off + k * 5 + 2, none⟩ = some (.int .i64 t) := aa 2 _ rfl
      have c3 : wr.cell? ⟨bq, off + k * 5 + 3, none⟩ = some (.string n1) := aa 3 _ rfl
      have c4 : wr.cell? ⟨bq, off + k * 5 + 4, none⟩ = some (.string n2) := aa 4 _ rfl
      clear aa hc hxk HSX
      have hlt' : (k : Int) < (N : Int) := by omega
      obtain ⟨W2, hW2⟩ : ∃ W, W = wr.alloc (BQ q d' t n1 n2) := ⟨_, rfl⟩
      have bw2 : Below wr.heap.size wr W2 := by rw [hW2]; exact (Below.refl _ _).alloc (Nat.le_refl _) _
      have HB2 : Hid (Below w.heap.size w W2) := HB.out.trans (bw2.mono hsz)
      have HX2 : Hid (W2.heap[w.heap.size]? = some (BC a b c d s s2 k0 st)) := (bw2.block _ hlx).trans HXR.out
      have HT2 : Hid (TabW W2 (.slice p m z) T ∧ Sp.isSp (pl T) = true) := ⟨HT.out.1.up bw2, HT.out.2⟩
      have HTL : Hid (T.length ≤ 1466015503701) := Nat.le_trans (sp_len HT.out.2) (by decide)
      clear bw2
      go_wp2_with fail
      rw [← hW2]
      clear hW2 c0 c1 c2 c3 c4
      refine (sdo_any _ T q d' t n1 n2 k _ HT2.out.1 (Sp.okN_sp HT2.out.2) HTL.out HSY.out.1 HSY.out.2).mono ?_
      rintro e w3 ⟨u3, T3, rfl, ht3, hp3, hb3⟩
      obtain ⟨p3, z3, hu3, -, -⟩ := ht3.open
      obtain ⟨m3, hm3⟩ : ∃ m, T3.length = m := ⟨_, rfl⟩
      rw [hm3] at hu3
      subst hu3
      obtain ⟨e3, he3⟩ : ∃ e, Sp.doE (pl T) q d' t n1 n2 k = e := ⟨_, rfl⟩
      rw [he3]
      have HB3 : Hid (Below w.heap.size w w3) := HB2.out.trans (hb3.mono HB2.out.size)
      have HX3 : Hid (w3.heap[w.heap.size]? = some (BC a b c d s s2 k0 st)) := (hb3.block _ (Array.getElem?_eq_some_iff.1 HX2.out).1).trans HX2.out
      by_cases h0 : e3 = 0
      · subst h0
        have HT3 : Hid (TabW w3 (.slice p3 m3 z3) T3 ∧ Sp.isSp (pl T3) = true) := ⟨ht3, by rw [hp3]; exact Sp.do_stays he3⟩
        clear ht3 hp3 hm3 hb3 he3
        go_wp2
        go_roundw
        case rel => exact ⟨k + 1, p3, m3, z3, T3, by omega, by go_num, rfl, HT3, HB3, HX3⟩
        case measure => simp [intOf]; omega
      · have t0 : (e3 == 0) = false := beq_eq_false_iff_ne.2 h0
        have HT3 : Hid (TabW w3 (.slice p m z) T ∧ Sp.isSp (pl T) = true) := ⟨HT2.out.1.up hb3, HT2.out.2⟩
        clear ht3 hp3 hm3 hb3 he3
        go_wp2
        go_roundw
        case rel => exact ⟨k + 1, p, m, z, T, by omega, by go_num, rfl, HT3, HB3, HX3⟩
        case measure => simp [intOf]; omega
    · obtain rfl : k = N := by omega
      clear hlt hlx hsz
      go_wp2_with fail
      refine (paths_any _ T _ HT.out.1 (Sp.okN_sp HT.out.2)).mono ?_
      rintro e w3 ⟨u3, rfl, ho3, hb3⟩
      obtain ⟨PB, hPB⟩ : ∃ PB, Sp.pathsC (pl T) = PB := ⟨_, rfl⟩
      rw [hPB] at ho3
      obtain ⟨pb, zb, hub, hmb, -⟩ := ho3.open
      obtain ⟨nb, hnb⟩ : ∃ nb, PB.length = nb := ⟨_, rfl⟩
      rw [hnb] at hub hmb
      subst hub
      have HPB : Hid (Sp.pathsC (pl T) = PB ∧ PB.length = nb) := ⟨hPB, hnb⟩
      have HO3 : Hid (AtW ETx w3 (.slice pb nb zb) PB) := ho3
      have HB3 : Hid (Below w.heap.size w w3) := HB.out.trans (hb3.mono HB.out.size)
      have HX3 : Hid (w3.heap[w.heap.size]? = some (BC a b c d s s2 k0 st)) := (hb3.block _ (Array.getElem?_eq_some_iff.1 HXR.out).1).trans HXR.out
      have HT3 : Hid (TabW w3 (.slice p m z) T ∧ Sp.isSp (pl T) = true) := ⟨HT.out.1.up hb3, HT.out.2⟩
      have hnb1 : nb ≤ 36865 := by
        have h1 := Sp.ways_few HT.out.2
        have h2 := Sp.pathsC_sp HT.out.2
        rw [← hnb, ← hPB, h2, (Sp.sortT_perm _).length_eq, List.length_cons]
        exact Nat.succ_le_succ h1
      clear ho3 hb3 hPB hnb hmb HT HB HXR
      obtain ⟨⟨qa1, qb1⟩, hq1⟩ : ∃ y, Sp.mkH (Sp.chk Sp.isSp) (pl T) 0 1 s 1 100 = y := ⟨_, rfl⟩
      obtain ⟨e1, he1⟩ : ∃ y, Sp.mkE (Sp.chk Sp.isSp) (pl T) 0 1 s 1 100 = y := ⟨_, rfl⟩
      have HE1 : Hid (Sp.mkE (Sp.chk Sp.isSp) (pl T) 0 1 s 1 100 = e1 ∧ Sp.mkH (Sp.chk Sp.isSp) (pl T) 0 1 s 1 100 = (qa1, qb1)) := ⟨he1, hq1⟩
      have HMK : Hid (∀ V, Below w3.heap.size w3 V → Calls Try.prog 8 #[.slice p m z, .agg #[.int .i64 0, .int .i64 1], .string s, .int .i64 1, .int .i64 100] V fun e w' => ∃ p4 m4 z4 T4, e = .returned (.tuple #[.slice p4 m4 z4, .agg #[.int .i64 qa1, .int .i64 qb1], .int .i64 e1]) ∧ (TabAt (fun b => V.heap.size ≤ b) w' (.slice p4 m4 z4) T4 ∧ (pl T4 = Sp.mkT (Sp.chk Sp.isSp) (pl T) 0 1 s 1 100 ∧ T4.length = m4)) ∧ Below V.heap.size V w') := fun V h => by
        refine (smake_any scheck_any isSp_means _ T 0 1 s 1 100 V (HT3.out.1.up h) (Sp.okN_sp HT3.out.2) HSM.out.1).mono ?_
        rintro e w' ⟨u, L', h1, h2, h3, h4⟩
        rw [HE1.out.1, HE1.out.2] at h1
        obtain ⟨p4, z4, hu, -, -⟩ := h2.open
        subst hu
        exact ⟨p4, L'.length, z4, L', h1, ⟨h2, h3, rfl⟩, h4⟩
      clear hq1 he1
      go_wp2_with fail
      have HSG1 : Hid (∀ V : World, Below w3.heap.size w3 V → V.cell? ⟨w.heap.size, 4, none⟩ = some (.string s) ∧ V.cell? ⟨w.heap.size, 5, none⟩ = some (.string s2)) := fun V h => by
        obtain ⟨_, _, _, _, a4, a5, _, _⟩ := case_of HX3.out
        exact ⟨cell_step a4 h, cell_step a5 h⟩
      have HB01 : Hid (Below w3.heap.size w3 (w3.alloc (BH 0 0))) := (Below.refl _ _).alloc (Nat.le_refl _) _
      have HB02 : Hid (Below w3.heap.size w3 (w3.drew.alloc (BH 0 0))) := (bel_drew (Below.refl _ _)).alloc (Nat.le_refl _) _
      apply cut_in
      · intro hK
        go_region_held3 (fun V => V.cell? ⟨w.heap.size, 4, none⟩ = some (.string s) ∧ V.cell? ⟨w.heap.size, 5, none⟩ = some (.string s2)) (first | exact HSG1.out _ (by (repeat (first | with_reducible assumption | exact Below.refl _ _ | refine bel_drew ?_ | refine Below.setCell ?_ (by first | exact Nat.le_refl _ | assumption) _ | refine Below.alloc ?_ (by first | exact Nat.le_refl _ | assumption) _)))) (first
          | (go_at_call 9; refine (root_any _).mono ?_; rintro e w5 ⟨rfl, hb5⟩; have hb55 : Below w3.heap.size w3 w5 := (by first | exact undrew hb5 | exact HB02.out.trans (hb5.mono HB02.out.size) | exact HB01.out.trans ((undrew hb5).mono HB01.out.size) | exact hb5); have h5s : w3.heap.size ≤ w5.heap.size := hb55.size; try (have hz5 : w5.heap[w3.heap.size]? = some (BH 0 0) := (by first | exact (hb5.block _ (by simp)).trans (heap_alloc_new w3.drew _) | exact (hb5.block _ (by show _ < Array.size _; simp)).trans (heap_alloc_new w3 _))); clear hb5)
          | (go_at_call 8; refine (HMK.out _ (by first | exact hb55 | exact hb55.alloc hb55.size _ | exact bel_drew hb55 | exact (bel_drew hb55).alloc hb55.size _)).mono ?_; rintro e w6 ⟨p4, m4, z4, T4, rfl, ht6, hb6⟩; have hb66 : Below w3.heap.size w3 w6 := (by first | exact hb55.trans (hb6.mono hb55.size) | exact hb55.trans ((undrew hb6).mono hb55.size) | exact (hb55.alloc hb55.size _).trans (hb6.mono (hb55.alloc hb55.size _).size) | exact ((bel_drew hb55).alloc hb55.size _).trans (hb6.mono ((bel_drew hb55).alloc hb55.size _).size) | exact (hb55.alloc hb55.size _).trans ((undrew hb6).mono (hb55.alloc hb55.size _).size)); have h6s : w3.heap.size ≤ w6.heap.size := hb66.size; (first
            | (have hz6 : w6.heap[w5.heap.size]? = some (BH 0 0) := (by first | exact (hb6.block _ (by simp)).trans (heap_alloc_new w5 _) | exact (hb6.block _ (by simp)).trans (heap_alloc_new w5.drew _) | exact (hb6.block _ (by show _ < Array.size _; simp)).trans (heap_alloc_new w5 _)); obtain ⟨⟨f0, f1⟩, ff⟩ := two_of hz6; have HZ6 : Hid (w6.heap[w5.heap.size]? = some (BH 0 0)) := hz6; have HU6 : Hid (TabAt (fun b => ¬ w5.heap.size = b) w6 (.slice p4 m4 z4) T4) := (ht6.1.imp (fun b hb _ => by simp at hb; omega)); have HP6 := ht6.2; clear hz6)
            | (have hz6 : w6.heap[w3.heap.size]? = some (BH 0 0) := (hb6.block _ (Array.getElem?_eq_some_iff.1 hz5).1).trans hz5; obtain ⟨⟨f0, f1⟩, ff⟩ := two_of hz6; have HZ6 : Hid (w6.heap[w3.heap.size]? = some (BH 0 0)) := hz6; have HU6 : Hid (TabAt (fun b => ¬ w3.heap.size = b) w6 (.slice p4 m4 z4) T4) := (ht6.1.imp (fun b hb _ => by have h3l := (Array.getElem?_eq_some_iff.1 hz5).1; omega)); have HP6 := ht6.2; clear hz6 hz5)
            | (have HU6 : Hid (TabW w6 (.slice p4 m4 z4) T4) := tab_wide ht6.1; have HP6 := ht6.2)); clear hb6 ht6))
        all_goals first
          | (obtain ⟨Y, hY⟩ : ∃ Y, Y = w6.alloc (BH qa1 qb1) := ⟨_, rfl⟩
             rw [← hY]
             have hYB : Below w3.heap.size w3 Y := by rw [hY]; exact hb66.alloc hb66.size _
             have hYT : TabW Y (.slice p4 m4 z4) T4 := by rw [hY]; exact HU6.out.up ((Below.refl _ _).alloc (Nat.le_refl _) _)
             obtain ⟨B, hB⟩ : ∃ B, B = w6.heap.size := ⟨_, rfl⟩
             have hYX : Y.heap[B]? = some (BH qa1 qb1) := by rw [hY, hB]; exact heap_alloc_new _ _
             rw [← hB]
             clear hB hY)
          | (obtain ⟨Y, hY⟩ : ∃ Y, Y = (w6.setCell ⟨w5.heap.size, 0, none⟩ (.int .i64 qa1)).setCell ⟨w5.heap.size, 1, none⟩ (.int .i64 qb1) := ⟨_, rfl⟩
             rw [← hY]
             have hYB : Below w3.heap.size w3 Y := by rw [hY]; exact Below.setCell (Below.setCell hb66 (show w3.heap.size ≤ w5.heap.size from h5s) _) (show w3.heap.size ≤ w5.heap.size from h5s) _
             have hYT : TabW Y (.slice p4 m4 z4) T4 := by rw [hY]; exact tab_wide (tab_setC (tab_setC HU6.out (by simp) _) (by simp) _)
             obtain ⟨B, hB⟩ : ∃ B, B = w5.heap.size := ⟨_, rfl⟩
             have hYX : Y.heap[B]? = some (BH qa1 qb1) := by rw [hY, hB]; exact setBH HZ6.out
             rw [← hB]
             clear hB hY f0 f1 ff)
          | (obtain ⟨Y, hY⟩ : ∃ Y, Y = (w6.setCell ⟨w3.heap.size, 0, none⟩ (.int .i64 qa1)).setCell ⟨w3.heap.size, 1, none⟩ (.int .i64 qb1) := ⟨_, rfl⟩
             rw [← hY]
             have hYB : Below w3.heap.size w3 Y := by rw [hY]; exact Below.setCell (Below.setCell hb66 (show w3.heap.size ≤ w3.heap.size from Nat.le_refl _) _) (show w3.heap.size ≤ w3.heap.size from Nat.le_refl _) _
             have hYT : TabW Y (.slice p4 m4 z4) T4 := by rw [hY]; exact tab_wide (tab_setC (tab_setC HU6.out (by simp) _) (by simp) _)
             obtain ⟨B, hB⟩ : ∃ B, B = w3.heap.size := ⟨_, rfl⟩
             have hYX : Y.heap[B]? = some (BH qa1 qb1) := by rw [hY, hB]; exact setBH HZ6.out
             rw [← hB]
             clear hB hY f0 f1 ff)
        all_goals
          have HR : Hid (Below w3.heap.size w3 Y ∧ Y.heap[B]? = some (BH qa1 qb1) ∧ TabW Y (.slice p4 m4 z4) T4 ∧ (pl T4 = Sp.mkT (Sp.chk Sp.isSp) (pl T) 0 1 s 1 100 ∧ T4.length = m4)) := ⟨hYB, hYX, hYT, HP6⟩
          clear hYB hYX hYT HU6 HP6
          revert HR
          revert T4 z4 m4 p4 B Y
          exact hK.out
      intro p1x m1x z1x T1x Y1 B1 HR1
      clear HSG1 HB01 HB02
      have bn1 := HR1.out.1
      have HBY1 : Hid (Below w.heap.size w Y1) := HB3.out.trans (bn1.mono HB3.out.size)
      have HXY1 : Hid (Y1.heap[w.heap.size]? = some (BC a b c d s s2 k0 st)) := (bn1.block _ (Array.getElem?_eq_some_iff.1 HX3.out).1).trans HX3.out
      have HOY1 : Hid (AtW ETx Y1 (.slice pb nb zb) PB) := HO3.out.up bn1
      clear bn1
      by_cases hz1 : e1 = 0
      · subst hz1
        have HMN := Sp.make_names HE1.out.1
        rw [HE1.out.2, HPB.out.1] at HMN
        have HT1' : Hid (TabW Y1 (.slice p1x m1x z1x) T1x ∧ pl T1x = Sp.mkT (Sp.chk Sp.isSp) (pl T) 0 1 s 1 100) := ⟨HR1.out.2.2.1, HR1.out.2.2.2.1⟩
        rw [← HT1'.out.2] at HMN
        have HMM : Hid (Sp.isSp (pl T1x) = true ∧ Sp.atErr (Sp.chk Sp.isSp) (pl T1x) 0 1 s = 0 ∧ Sp.atH (Sp.chk Sp.isSp) (pl T1x) 0 1 s = (qa1, qb1) ∧ names (pl T1x) qa1 qb1 = true ∧ (Sp.pathsC (pl T1x)).length = nb + 1 ∧ (Sp.pathsC (pl T1x)).filter (Sp.nq (⟨#[47]⟩ ++ s)) = PB ∧ s.size ≤ 32) := ⟨HMN.2.1, HMN.2.2.1, HMN.2.2.2.1, HMN.2.2.2.2.1, by rw [HMN.2.2.2.2.2.1, HPB.out.2], HMN.2.2.2.2.2.2⟩
        clear HMN
        have HLK : Hid (∀ V, Below Y1.heap.size Y1 V → Calls Try.prog 10 #[.slice p1x m1x z1x, .agg #[.int .i64 0, .int .i64 1], .string s] V fun e w' => e = .returned (.tuple #[.agg #[.int .i64 qa1, .int .i64 qb1], .int .i64 0]) ∧ Below V.heap.size V w') := fun V h => by
          refine (look_any scheck_any _ T1x 0 1 s V (HT1'.out.1.up h) (Sp.okN_sp HMM.out.1) HSM.out.1).mono ?_
          rintro e w' ⟨h1, h4⟩
          rw [HMM.out.2.1, HMM.out.2.2.1] at h1
          exact ⟨h1, h4⟩
        obtain ⟨qa2, hqa2⟩ : ∃ x, x = qa1 := ⟨_, rfl⟩
        obtain ⟨qb2, hqb2⟩ : ∃ x, x = qb1 := ⟨_, rfl⟩
        rw [← hqa2, ← hqb2] at HLK
        have HQ2 : Hid (qa2 = qa1 ∧ qb2 = qb1) := ⟨hqa2, hqb2⟩
        clear hqa2 hqb2
        go_wp2_with fail
        have HSG2 : Hid (∀ V : World, Below Y1.heap.size Y1 V → V.cell? ⟨w.heap.size, 4, none⟩ = some (.string s) ∧ V.cell? ⟨w.heap.size, 5, none⟩ = some (.string s2)) := fun V h => by
          obtain ⟨_, _, _, _, a4, a5, _, _⟩ := case_of HXY1.out
          exact ⟨cell_step a4 h, cell_step a5 h⟩
        have HB01 : Hid (Below Y1.heap.size Y1 (Y1.alloc (BH 0 0))) := (Below.refl _ _).alloc (Nat.le_refl _) _
        have HB02 : Hid (Below Y1.heap.size Y1 (Y1.drew.alloc (BH 0 0))) := (bel_drew (Below.refl _ _)).alloc (Nat.le_refl _) _
        apply cut_in
        · intro hK
          go_region_held3 (fun V => V.cell? ⟨w.heap.size, 4, none⟩ = some (.string s) ∧ V.cell? ⟨w.heap.size, 5, none⟩ = some (.string s2)) (first | exact HSG2.out _ (by (repeat (first | with_reducible assumption | exact Below.refl _ _ | refine bel_drew ?_ | refine Below.setCell ?_ (by first | exact Nat.le_refl _ | assumption) _ | refine Below.alloc ?_ (by first | exact Nat.le_refl _ | assumption) _)))) (first
            | (go_at_call 9; refine (root_any _).mono ?_; rintro e w5 ⟨rfl, hb5⟩; have hb55 : Below Y1.heap.size Y1 w5 := (by first | exact undrew hb5 | exact HB02.out.trans (hb5.mono HB02.out.size) | exact HB01.out.trans ((undrew hb5).mono HB01.out.size) | exact hb5); have h5s : Y1.heap.size ≤ w5.heap.size := hb55.size; try (have hz5 : w5.heap[Y1.heap.size]? = some (BH 0 0) := (by first | exact (hb5.block _ (by simp)).trans (heap_alloc_new Y1.drew _) | exact (hb5.block _ (by show _ < Array.size _; simp)).trans (heap_alloc_new Y1 _))); clear hb5)
            | (go_at_call 10; refine (HLK.out _ (by first | exact hb55 | exact hb55.alloc hb55.size _ | exact bel_drew hb55 | exact (bel_drew hb55).alloc hb55.size _)).mono ?_; rintro e w6 ⟨rfl, hb6⟩; have hb66 : Below Y1.heap.size Y1 w6 := (by first | exact hb55.trans (hb6.mono hb55.size) | exact hb55.trans ((undrew hb6).mono hb55.size) | exact (hb55.alloc hb55.size _).trans (hb6.mono (hb55.alloc hb55.size _).size) | exact ((bel_drew hb55).alloc hb55.size _).trans (hb6.mono ((bel_drew hb55).alloc hb55.size _).size) | exact (hb55.alloc hb55.size _).trans ((undrew hb6).mono (hb55.alloc hb55.size _).size)); have h6s : Y1.heap.size ≤ w6.heap.size := hb66.size; (first
              | (have hz6 : w6.heap[w5.heap.size]? = some (BH 0 0) := (by first | exact (hb6.block _ (by simp)).trans (heap_alloc_new w5 _) | exact (hb6.block _ (by simp)).trans (heap_alloc_new w5.drew _) | exact (hb6.block _ (by show _ < Array.size _; simp)).trans (heap_alloc_new w5 _)); obtain ⟨⟨f0, f1⟩, ff⟩ := two_of hz6; have HZ6 : Hid (w6.heap[w5.heap.size]? = some (BH 0 0)) := hz6; skip; clear hz6)
              | (have hz6 : w6.heap[Y1.heap.size]? = some (BH 0 0) := (hb6.block _ (Array.getElem?_eq_some_iff.1 hz5).1).trans hz5; obtain ⟨⟨f0, f1⟩, ff⟩ := two_of hz6; have HZ6 : Hid (w6.heap[Y1.heap.size]? = some (BH 0 0)) := hz6; skip; clear hz6 hz5)
              | (skip)); clear hb6))
          all_goals first
            | (obtain ⟨Y, hY⟩ : ∃ Y, Y = w6.alloc (BH qa2 qb2) := ⟨_, rfl⟩
               rw [← hY]
               have hYB : Below Y1.heap.size Y1 Y := by rw [hY]; exact hb66.alloc hb66.size _
               obtain ⟨B, hB⟩ : ∃ B, B = w6.heap.size := ⟨_, rfl⟩
               have hYX : Y.heap[B]? = some (BH qa2 qb2) := by rw [hY, hB]; exact heap_alloc_new _ _
               rw [← hB]
               clear hB hY)
            | (obtain ⟨Y, hY⟩ : ∃ Y, Y = (w6.setCell ⟨w5.heap.size, 0, none⟩ (.int .i64 qa2)).setCell ⟨w5.heap.size, 1, none⟩ (.int .i64 qb2) := ⟨_, rfl⟩
               rw [← hY]
               have hYB : Below Y1.heap.size Y1 Y := by rw [hY]; exact Below.setCell (Below.setCell hb66 (show Y1.heap.size ≤ w5.heap.size from h5s) _) (show Y1.heap.size ≤ w5.heap.size from h5s) _
               obtain ⟨B, hB⟩ : ∃ B, B = w5.heap.size := ⟨_, rfl⟩
               have hYX : Y.heap[B]? = some (BH qa2 qb2) := by rw [hY, hB]; exact setBH HZ6.out
               rw [← hB]
               clear hB hY f0 f1 ff)
            | (obtain ⟨Y, hY⟩ : ∃ Y, Y = (w6.setCell ⟨Y1.heap.size, 0, none⟩ (.int .i64 qa2)).setCell ⟨Y1.heap.size, 1, none⟩ (.int .i64 qb2) := ⟨_, rfl⟩
               rw [← hY]
               have hYB : Below Y1.heap.size Y1 Y := by rw [hY]; exact Below.setCell (Below.setCell hb66 (show Y1.heap.size ≤ Y1.heap.size from Nat.le_refl _) _) (show Y1.heap.size ≤ Y1.heap.size from Nat.le_refl _) _
               obtain ⟨B, hB⟩ : ∃ B, B = Y1.heap.size := ⟨_, rfl⟩
               have hYX : Y.heap[B]? = some (BH qa2 qb2) := by rw [hY, hB]; exact setBH HZ6.out
               rw [← hB]
               clear hB hY f0 f1 ff)
          all_goals
            have HR : Hid (Below Y1.heap.size Y1 Y ∧ Y.heap[B]? = some (BH qa2 qb2)) := ⟨hYB, hYX⟩
            clear hYB hYX
            revert HR
            revert B Y
            exact hK.out
        intro Y2 B2 HR2
        clear HSG2 HB01 HB02
        obtain rfl : qa2 = qa1 := HQ2.out.1
        obtain rfl : qb2 = qb1 := HQ2.out.2
        have bn2 := HR2.out.1
        have HBY2 : Hid (Below w.heap.size w Y2) := HBY1.out.trans (bn2.mono HBY1.out.size)
        have HXY2 : Hid (Y2.heap[w.heap.size]? = some (BC a b c d s s2 k0 st)) := (bn2.block _ (Array.getElem?_eq_some_iff.1 HXY1.out).1).trans HXY1.out
        have HOY2 : Hid (AtW ETx Y2 (.slice pb nb zb) PB) := HOY1.out.up bn2
        have HH2 : Hid (Y2.heap[B1]? = some (BH qa2 qb2)) := (bn2.block _ (Array.getElem?_eq_some_iff.1 HR1.out.2.1).1).trans HR1.out.2.1
        have HT2' : Hid (TabW Y2 (.slice p1x m1x z1x) T1x) := HT1'.out.1.up bn2
        clear bn2 HLK HQ2
        go_wp2_with fail
        refine (paths_any _ T1x _ HT2'.out (Sp.okN_sp HMM.out.1)).mono ?_
        rintro e w4 ⟨u4, rfl, ho4, hb4⟩
        obtain ⟨PA, hPA⟩ : ∃ PA, Sp.pathsC (pl T1x) = PA := ⟨_, rfl⟩
        rw [hPA] at ho4
        obtain ⟨pa, za, hua, hma, -⟩ := ho4.open
        have hna : PA.length = nb + 1 := by rw [← hPA]; exact HMM.out.2.2.2.2.1
        rw [hna] at hua
        subst hua
        have HPA : Hid (Sp.pathsC (pl T1x) = PA ∧ PA.length = nb + 1 ∧ PA.filter (Sp.nq (⟨#[47]⟩ ++ s)) = PB) := ⟨hPA, hna, by rw [← hPA]; exact HMM.out.2.2.2.2.2.1⟩
        have HO4 : Hid (AtW ETx w4 (.slice pa (nb + 1) za) PA ∧ AtW ETx w4 (.slice pb nb zb) PB) := ⟨ho4, HOY2.out.up hb4⟩
        have HB4 : Hid (Below w.heap.size w w4) := HBY2.out.trans (hb4.mono HBY2.out.size)
        have HX4 : Hid (w4.heap[w.heap.size]? = some (BC a b c d s s2 k0 st)) := (hb4.block _ (Array.getElem?_eq_some_iff.1 HXY2.out).1).trans HXY2.out
        have HH4 : Hid (w4.heap[B1]? = some (BH qa2 qb2) ∧ w4.heap[B2]? = some (BH qa2 qb2)) := ⟨(hb4.block _ (Array.getElem?_eq_some_iff.1 HH2.out).1).trans HH2.out, (hb4.block _ (Array.getElem?_eq_some_iff.1 HR2.out.2).1).trans HR2.out.2⟩
        have HT4 : Hid (TabW w4 (.slice p1x m1x z1x) T1x) := HT2'.out.up hb4
        clear ho4 hb4 hPA hna hma
        have hne := fun w' => hand_not qa2 qb2 w'
        have hlen : (((nb + 1 : Nat) : Int) != (nb : Int) + 1) = false := by simp
        obtain ⟨⟨f0, f1⟩, -⟩ := two_of HH4.out.1
        obtain ⟨⟨g0, g1⟩, -⟩ := two_of HH4.out.2
        go_wp2_with fail
        refine (rnames_any _ T1x qa2 qb2 _ HT4.out).mono ?_
        rintro e w5 ⟨rfl, hb5⟩
        rw [HMM.out.2.2.2.1]
        have HB5 : Hid (Below w.heap.size w w5) := HB4.out.trans (hb5.mono HB4.out.size)
        have HX5 : Hid (w5.heap[w.heap.size]? = some (BC a b c d s s2 k0 st)) := (hb5.block _ (Array.getElem?_eq_some_iff.1 HX4.out).1).trans HX4.out
        have HO5 : Hid (AtW ETx w5 (.slice pa (nb + 1) za) PA ∧ AtW ETx w5 (.slice pb nb zb) PB) := ⟨HO4.out.1.up hb5, HO4.out.2.up hb5⟩
        have HH5 : Hid (w5.heap[B1]? = some (BH qa2 qb2)) := (hb5.block _ (Array.getElem?_eq_some_iff.1 HH4.out.1).1).trans HH4.out.1
        have HT5 : Hid (TabW w5 (.slice p1x m1x z1x) T1x) := HT4.out.up hb5
        clear hb5 f0 f1 g0 g1 HO4 HX4 HH4 HT4 HH2 HOY2 HOY1 HXY1 HXY2 HT2' HO3 HX3 HR2 HR1 HMK
        go_wp2
        go_loopw [17, 101] (fun n i wr => ∃ j q : Nat, j ≤ nb + 1 ∧ i = .int .i64 j ∧ n = .int .i64 q ∧ Hid (((PA.take j).filter (Sp.nq (⟨#[47]⟩ ++ s))).length = q) ∧ wr = w5) (fun _ i _ => nb + 1 - (intOf i).toNat)
        case atStart => exact ⟨0, 0, Nat.zero_le _, rfl, rfl, rfl, rfl⟩
        case round =>
          obtain ⟨j, q, hj, rfl, rfl, HQJ, hwr⟩ := hrel
          obtain rfl : w5 = wr := hwr.symm
          clear hwr
          by_cases hlj : j < nb + 1
          · obtain ⟨x, hxj⟩ : ∃ x, PA[j]? = some x := ⟨_, List.getElem?_eq_getElem (by rw [HPA.out.2.1]; exact hlj)⟩
            have hlj' : (j : Int) < ((nb + 1 : Nat) : Int) := by omega
            obtain ⟨_, _, _, _, b4, _, _, _⟩ := case_of HX5.out
            have hcat : ¬ 9223372036854775807 < 1 + s.size := by have h := HMM.out.2.2.2.2.2.2; omega
            obtain ⟨ao9, cap9, hvs, -, hos⟩ := HO5.out.1.open
            obtain ⟨bs, ofs, hbs, -, hBs, hcs⟩ := hos j x hxj
            simp only [Value.slice.injEq] at hvs
            obtain rfl : pa = some ⟨bs, ofs, none⟩ := hvs.1.trans hbs
            have g0 : w5.cell? ⟨bs, ofs + j, none⟩ = some (.string x) := by have := hcs 0 _ rfl; rwa [show ETx.sz = 1 from rfl, Nat.mul_one, Nat.add_zero] at this
            clear hvs hos hbs hBs hcs
            by_cases hxp : x = ⟨#[47]⟩ ++ s
            · have HQ1 : Hid (((PA.take (j + 1)).filter (Sp.nq (⟨#[47]⟩ ++ s))).length = q) := by
                have h1 := filter_step (p := ⟨#[47]⟩ ++ s) hxj
                rw [if_pos hxp, HQJ.out] at h1
                exact h1
              have t1 : (x.toList == ((⟨#[47]⟩ : ByteArray) ++ s).toList) = true := by rw [hxp]; exact beq_self_eq_true _
              clear hxj hxp
              go_wp2
              go_roundw
              case rel => exact ⟨j + 1, q, by omega, by go_num, rfl, HQ1, trivial⟩
              case measure => simp [intOf]; omega
            · have hbq := filter_at HPA.out.2.2 hxj hxp
              have HQ1 : Hid (((PA.take (j + 1)).filter (Sp.nq (⟨#[47]⟩ ++ s))).length = q + 1) := by
                have h1 := filter_step (p := ⟨#[47]⟩ ++ s) hxj
                rw [if_neg hxp, HQJ.out] at h1
                exact h1
              rw [HQJ.out] at hbq
              have hqb : q < nb := by rw [← HPB.out.2]; exact (List.getElem?_eq_some_iff.1 hbq).1
              have hqb' : ¬ (nb : Int) ≤ (q : Int) := by omega
              have hqb2 : (q : Int) < (nb : Int) := by omega
              obtain ⟨ao9, cap9, hvs, -, hos⟩ := HO5.out.2.open
              obtain ⟨bs2, ofs2, hbs, -, hBs, hcs⟩ := hos q x hbq
              simp only [Value.slice.injEq] at hvs
              obtain rfl : pb = some ⟨bs2, ofs2, none⟩ := hvs.1.trans hbs
              have g1 : w5.cell? ⟨bs2, ofs2 + q, none⟩ = some (.string x) := by have := hcs 0 _ rfl; rwa [show ETx.sz = 1 from rfl, Nat.mul_one, Nat.add_zero] at this
              clear hvs hos hbs hBs hcs
              have t1 : (x.toList == ((⟨#[47]⟩ : ByteArray) ++ s).toList) = false := by
                have := Sp.nq_iff.2 hxp
                unfold Sp.nq at this
                simpa using this
              have t2 : (x.toList != x.toList) = false := by simp
              have t3 : (x.toList == x.toList) = true := beq_self_eq_true _
              clear hxj hxp hbq
              go_wp2
              go_roundw
              case rel => exact ⟨j + 1, q + 1, by omega, by go_num, by go_num, HQ1, trivial⟩
              case measure => simp [intOf]; omega
          · obtain rfl : j = nb + 1 := by omega
            clear hlj HQJ
            obtain ⟨e5, he5⟩ : ∃ y, Sp.rnE (Sp.chk Sp.isSp) Sp.insB (pl T1x) 0 1 s 0 1 s2 101 = y := ⟨_, rfl⟩
            have HE5 : Hid (Sp.rnE (Sp.chk Sp.isSp) Sp.insB (pl T1x) 0 1 s 0 1 s2 101 = e5) := he5
            have HSG5 : Hid (∀ V : World, Below w5.heap.size w5 V → V.cell? ⟨w.heap.size, 4, none⟩ = some (.string s) ∧ V.cell? ⟨w.heap.size, 5, none⟩ = some (.string s2)) := fun V h => by
              obtain ⟨_, _, _, _, a4, a5, _, _⟩ := case_of HX5.out
              exact ⟨cell_step a4 h, cell_step a5 h⟩
            have HRN : Hid (∀ V, Below w5.heap.size w5 V → Calls Try.prog 12 #[.slice p1x m1x z1x, .agg #[.int .i64 0, .int .i64 1], .string s, .agg #[.int .i64 0, .int .i64 1], .string s2, .int .i64 101] V fun e w' => ∃ p6 m6 z6 T6, e = .returned (.tuple #[.slice p6 m6 z6, .int .i64 e5]) ∧ (TabW w' (.slice p6 m6 z6) T6 ∧ (pl T6 = Sp.rnT (Sp.chk Sp.isSp) Sp.insB (pl T1x) 0 1 s 0 1 s2 101 ∧ T6.length = m6)) ∧ Below V.heap.size V w') := fun V h => by
              refine (srename_any scheck_any isSp_means ins_said _ T1x 0 1 s 0 1 s2 101 V (HT5.out.up h) (Sp.okN_sp HMM.out.1) HSM.out.1 HSM.out.2).mono ?_
              rintro e w' ⟨u, L', h1, h2, h3, h4⟩
              rw [HE5.out] at h1
              obtain ⟨p4, z4, hu, -, -⟩ := h2.open
              subst hu
              exact ⟨p4, L'.length, z4, L', h1, ⟨tab_wide h2, h3, rfl⟩, h4⟩
            clear he5
            go_wp2_with fail
            apply cut_in
            · intro hK
              go_region_held3 (fun V => V.cell? ⟨w.heap.size, 4, none⟩ = some (.string s) ∧ V.cell? ⟨w.heap.size, 5, none⟩ = some (.string s2)) (first | exact HSG5.out _ (by (repeat (first | with_reducible assumption | exact Below.refl _ _ | refine bel_drew ?_ | refine Below.setCell ?_ (by first | exact Nat.le_refl _ | assumption) _ | refine Below.alloc ?_ (by first | exact Nat.le_refl _ | assumption) _)))) (first
                | (go_at_call 9; refine (root_any _).mono ?_; rintro e w7 ⟨rfl, hb7⟩; have hb77 : Below w5.heap.size w5 w7 := (by first | exact hb66.trans (hb7.mono hb66.size) | exact hb66.trans ((undrew hb7).mono hb66.size)); clear hb7)
                | (go_at_call 9; refine (root_any _).mono ?_; rintro e w6 ⟨rfl, hb6⟩; have hb66 : Below w5.heap.size w5 w6 := (by first | exact undrew hb6 | exact hb6); clear hb6)
                | (go_at_call 12; refine (HRN.out _ (by first | exact hb77 | exact bel_drew hb77)).mono ?_; rintro e w8 ⟨p6, m6, z6, T6, rfl, ht8, hb8⟩; have hb88 : Below w5.heap.size w5 w8 := (by first | exact hb77.trans (hb8.mono hb77.size) | exact hb77.trans ((undrew hb8).mono hb77.size)); clear hb8))
              all_goals
                obtain ⟨Y, hY⟩ : ∃ Y, Y = w8 := ⟨_, rfl⟩
                rw [← hY]
                have HR : Hid (Below w5.heap.size w5 Y ∧ TabW Y (.slice p6 m6 z6) T6 ∧ (pl T6 = Sp.rnT (Sp.chk Sp.isSp) Sp.insB (pl T1x) 0 1 s 0 1 s2 101 ∧ T6.length = m6)) := by rw [hY]; exact ⟨hb88, ht8⟩
                clear hb88 ht8 hY
                revert HR
                revert T6 z6 m6 p6 Y
                exact hK.out
            intro p6 m6 z6 T6 w8 HR8
            have HB8 : Hid (Below w.heap.size w w8) := HB5.out.trans (HR8.out.1.mono HB5.out.size)
            clear HRN HSG5
            by_cases hz5 : e5 = 0
            · subst hz5
              have HRM := Sp.rename_names HE5.out
              rw [← HR8.out.2.2.1, HMM.out.2.2.1] at HRM
              have HRR : Hid (Sp.isSp (pl T6) = true ∧ Sp.atErr (Sp.chk Sp.isSp) (pl T6) 0 1 s = 402 ∧ Sp.atErr (Sp.chk Sp.isSp) (pl T6) 0 1 s2 = 0 ∧ Sp.atH (Sp.chk Sp.isSp) (pl T6) 0 1 s2 = (qa2, qb2) ∧ (Sp.pathsC (pl T6)).length = nb + 1) := ⟨HRM.1, HRM.2.1, HRM.2.2.1, HRM.2.2.2.1, by rw [HRM.2.2.2.2, HPA.out.1, HPA.out.2.1]⟩
              clear HRM
              have HX8 : Hid (w8.heap[w.heap.size]? = some (BC a b c d s s2 k0 st)) := (HR8.out.1.block _ (Array.getElem?_eq_some_iff.1 HX5.out).1).trans HX5.out
              have HH8 : Hid (w8.heap[B1]? = some (BH qa2 qb2)) := (HR8.out.1.block _ (Array.getElem?_eq_some_iff.1 HH5.out).1).trans HH5.out
              obtain ⟨⟨qa3, qb3⟩, hq3⟩ : ∃ y, Sp.atH (Sp.chk Sp.isSp) (pl T6) 0 1 s = y := ⟨_, rfl⟩
              have HQ3 : Hid (Sp.atH (Sp.chk Sp.isSp) (pl T6) 0 1 s = (qa3, qb3)) := hq3
              clear hq3
              have HLK : Hid (∀ V, Below w8.heap.size w8 V → Calls Try.prog 10 #[.slice p6 m6 z6, .agg #[.int .i64 0, .int .i64 1], .string s] V fun e w' => e = .returned (.tuple #[.agg #[.int .i64 qa3, .int .i64 qb3], .int .i64 402]) ∧ Below V.heap.size V w') := fun V h => by
                refine (look_any scheck_any _ T6 0 1 s V (HR8.out.2.1.up h) (Sp.okN_sp HRR.out.1) HSM.out.1).mono ?_
                rintro e w' ⟨h1, h4⟩
                rw [HRR.out.2.1, HQ3.out] at h1
                exact ⟨h1, h4⟩
              go_wp2_with fail
              have HSG3 : Hid (∀ V : World, Below w8.heap.size w8 V → V.cell? ⟨w.heap.size, 4, none⟩ = some (.string s) ∧ V.cell? ⟨w.heap.size, 5, none⟩ = some (.string s2)) := fun V h => by
                obtain ⟨_, _, _, _, a4, a5, _, _⟩ := case_of HX8.out
                exact ⟨cell_step a4 h, cell_step a5 h⟩
              have HB01 : Hid (Below w8.heap.size w8 (w8.alloc (BH 0 0))) := (Below.refl _ _).alloc (Nat.le_refl _) _
              have HB02 : Hid (Below w8.heap.size w8 (w8.drew.alloc (BH 0 0))) := (bel_drew (Below.refl _ _)).alloc (Nat.le_refl _) _
              apply cut_in
              · intro hK
                go_region_held3 (fun V => V.cell? ⟨w.heap.size, 4, none⟩ = some (.string s) ∧ V.cell? ⟨w.heap.size, 5, none⟩ = some (.string s2)) (first | exact HSG3.out _ (by (repeat (first | with_reducible assumption | exact Below.refl _ _ | refine bel_drew ?_ | refine Below.setCell ?_ (by first | exact Nat.le_refl _ | assumption) _ | refine Below.alloc ?_ (by first | exact Nat.le_refl _ | assumption) _)))) (first
                  | (go_at_call 9; refine (root_any _).mono ?_; rintro e w5 ⟨rfl, hb5⟩; have hb55 : Below w8.heap.size w8 w5 := (by first | exact undrew hb5 | exact HB02.out.trans (hb5.mono HB02.out.size) | exact HB01.out.trans ((undrew hb5).mono HB01.out.size) | exact hb5); have h5s : w8.heap.size ≤ w5.heap.size := hb55.size; try (have hz5 : w5.heap[w8.heap.size]? = some (BH 0 0) := (by first | exact (hb5.block _ (by simp)).trans (heap_alloc_new w8.drew _) | exact (hb5.block _ (by show _ < Array.size _; simp)).trans (heap_alloc_new w8 _))); clear hb5)
                  | (go_at_call 10; refine (HLK.out _ (by first | exact hb55 | exact hb55.alloc hb55.size _ | exact bel_drew hb55 | exact (bel_drew hb55).alloc hb55.size _)).mono ?_; rintro e w6 ⟨rfl, hb6⟩; have hb66 : Below w8.heap.size w8 w6 := (by first | exact hb55.trans (hb6.mono hb55.size) | exact hb55.trans ((undrew hb6).mono hb55.size) | exact (hb55.alloc hb55.size _).trans (hb6.mono (hb55.alloc hb55.size _).size) | exact ((bel_drew hb55).alloc hb55.size _).trans (hb6.mono ((bel_drew hb55).alloc hb55.size _).size) | exact (hb55.alloc hb55.size _).trans ((undrew hb6).mono (hb55.alloc hb55.size _).size)); have h6s : w8.heap.size ≤ w6.heap.size := hb66.size; (first
                    | (have hz6 : w6.heap[w5.heap.size]? = some (BH 0 0) := (by first | exact (hb6.block _ (by simp)).trans (heap_alloc_new w5 _) | exact (hb6.block _ (by simp)).trans (heap_alloc_new w5.drew _) | exact (hb6.block _ (by show _ < Array.size _; simp)).trans (heap_alloc_new w5 _)); obtain ⟨⟨f0, f1⟩, ff⟩ := two_of hz6; have HZ6 : Hid (w6.heap[w5.heap.size]? = some (BH 0 0)) := hz6; skip; clear hz6)
                    | (have hz6 : w6.heap[w8.heap.size]? = some (BH 0 0) := (hb6.block _ (Array.getElem?_eq_some_iff.1 hz5).1).trans hz5; obtain ⟨⟨f0, f1⟩, ff⟩ := two_of hz6; have HZ6 : Hid (w6.heap[w8.heap.size]? = some (BH 0 0)) := hz6; skip; clear hz6 hz5)
                    | (skip)); clear hb6))
                all_goals first
                  | (obtain ⟨Y, hY⟩ : ∃ Y, Y = w6.alloc (BH qa3 qb3) := ⟨_, rfl⟩
                     rw [← hY]
                     have hYB : Below w8.heap.size w8 Y := by rw [hY]; exact hb66.alloc hb66.size _
                     obtain ⟨B, hB⟩ : ∃ B, B = w6.heap.size := ⟨_, rfl⟩
                     have hYX : Y.heap[B]? = some (BH qa3 qb3) := by rw [hY, hB]; exact heap_alloc_new _ _
                     rw [← hB]
                     clear hB hY)
                  | (obtain ⟨Y, hY⟩ : ∃ Y, Y = (w6.setCell ⟨w5.heap.size, 0, none⟩ (.int .i64 qa3)).setCell ⟨w5.heap.size, 1, none⟩ (.int .i64 qb3) := ⟨_, rfl⟩
                     rw [← hY]
                     have hYB : Below w8.heap.size w8 Y := by rw [hY]; exact Below.setCell (Below.setCell hb66 (show w8.heap.size ≤ w5.heap.size from h5s) _) (show w8.heap.size ≤ w5.heap.size from h5s) _
                     obtain ⟨B, hB⟩ : ∃ B, B = w5.heap.size := ⟨_, rfl⟩
                     have hYX : Y.heap[B]? = some (BH qa3 qb3) := by rw [hY, hB]; exact setBH HZ6.out
                     rw [← hB]
                     clear hB hY f0 f1 ff)
                  | (obtain ⟨Y, hY⟩ : ∃ Y, Y = (w6.setCell ⟨w8.heap.size, 0, none⟩ (.int .i64 qa3)).setCell ⟨w8.heap.size, 1, none⟩ (.int .i64 qb3) := ⟨_, rfl⟩
                     rw [← hY]
                     have hYB : Below w8.heap.size w8 Y := by rw [hY]; exact Below.setCell (Below.setCell hb66 (show w8.heap.size ≤ w8.heap.size from Nat.le_refl _) _) (show w8.heap.size ≤ w8.heap.size from Nat.le_refl _) _
                     obtain ⟨B, hB⟩ : ∃ B, B = w8.heap.size := ⟨_, rfl⟩
                     have hYX : Y.heap[B]? = some (BH qa3 qb3) := by rw [hY, hB]; exact setBH HZ6.out
                     rw [← hB]
                     clear hB hY f0 f1 ff)
                all_goals
                  have HR : Hid (Below w8.heap.size w8 Y ∧ Y.heap[B]? = some (BH qa3 qb3)) := ⟨hYB, hYX⟩
                  clear hYB hYX
                  revert HR
                  revert B Y
                  exact hK.out
              intro Y3 B3 HR3
              clear HSG3 HB01 HB02
              have bn3 := HR3.out.1
              have HBY3 : Hid (Below w.heap.size w Y3) := HB8.out.trans (bn3.mono HB8.out.size)
              have HXY3 : Hid (Y3.heap[w.heap.size]? = some (BC a b c d s s2 k0 st)) := (bn3.block _ (Array.getElem?_eq_some_iff.1 HX8.out).1).trans HX8.out
              have HHY3 : Hid (Y3.heap[B1]? = some (BH qa2 qb2)) := (bn3.block _ (Array.getElem?_eq_some_iff.1 HH8.out).1).trans HH8.out
              have HTY3 : Hid (TabW Y3 (.slice p6 m6 z6) T6) := HR8.out.2.1.up bn3
              clear bn3 HLK
              obtain ⟨qa4, hqa4⟩ : ∃ x, x = qa2 := ⟨_, rfl⟩
              obtain ⟨qb4, hqb4⟩ : ∃ x, x = qb2 := ⟨_, rfl⟩
              have HQ4 : Hid (qa4 = qa2 ∧ qb4 = qb2) := ⟨hqa4, hqb4⟩
              have HLK : Hid (∀ V, Below Y3.heap.size Y3 V → Calls Try.prog 10 #[.slice p6 m6 z6, .agg #[.int .i64 0, .int .i64 1], .string s2] V fun e w' => e = .returned (.tuple #[.agg #[.int .i64 qa4, .int .i64 qb4], .int .i64 0]) ∧ Below V.heap.size V w') := fun V h => by
                refine (look_any scheck_any _ T6 0 1 s2 V (HTY3.out.up h) (Sp.okN_sp HRR.out.1) HSM.out.2).mono ?_
                rintro e w' ⟨h1, h4⟩
                rw [HRR.out.2.2.1, HRR.out.2.2.2.1, ← HQ4.out.1, ← HQ4.out.2] at h1
                exact ⟨h1, h4⟩
              clear hqa4 hqb4
              go_wp2_with fail
              have HSG4 : Hid (∀ V : World, Below Y3.heap.size Y3 V → V.cell? ⟨w.heap.size, 4, none⟩ = some (.string s) ∧ V.cell? ⟨w.heap.size, 5, none⟩ = some (.string s2)) := fun V h => by
                obtain ⟨_, _, _, _, a4, a5, _, _⟩ := case_of HXY3.out
                exact ⟨cell_step a4 h, cell_step a5 h⟩
              have HB01 : Hid (Below Y3.heap.size Y3 (Y3.alloc (BH 0 0))) := (Below.refl _ _).alloc (Nat.le_refl _) _
              have HB02 : Hid (Below Y3.heap.size Y3 (Y3.drew.alloc (BH 0 0))) := (bel_drew (Below.refl _ _)).alloc (Nat.le_refl _) _
              apply cut_in
              · intro hK
                go_region_held3 (fun V => V.cell? ⟨w.heap.size, 4, none⟩ = some (.string s) ∧ V.cell? ⟨w.heap.size, 5, none⟩ = some (.string s2)) (first | exact HSG4.out _ (by (repeat (first | with_reducible assumption | exact Below.refl _ _ | refine bel_drew ?_ | refine Below.setCell ?_ (by first | exact Nat.le_refl _ | assumption) _ | refine Below.alloc ?_ (by first | exact Nat.le_refl _ | assumption) _)))) (first
                  | (go_at_call 9; refine (root_any _).mono ?_; rintro e w5 ⟨rfl, hb5⟩; have hb55 : Below Y3.heap.size Y3 w5 := (by first | exact undrew hb5 | exact HB02.out.trans (hb5.mono HB02.out.size) | exact HB01.out.trans ((undrew hb5).mono HB01.out.size) | exact hb5); have h5s : Y3.heap.size ≤ w5.heap.size := hb55.size; try (have hz5 : w5.heap[Y3.heap.size]? = some (BH 0 0) := (by first | exact (hb5.block _ (by simp)).trans (heap_alloc_new Y3.drew _) | exact (hb5.block _ (by show _ < Array.size _; simp)).trans (heap_alloc_new Y3 _))); clear hb5)
                  | (go_at_call 10; refine (HLK.out _ (by first | exact hb55 | exact hb55.alloc hb55.size _ | exact bel_drew hb55 | exact (bel_drew hb55).alloc hb55.size _)).mono ?_; rintro e w6 ⟨rfl, hb6⟩; have hb66 : Below Y3.heap.size Y3 w6 := (by first | exact hb55.trans (hb6.mono hb55.size) | exact hb55.trans ((undrew hb6).mono hb55.size) | exact (hb55.alloc hb55.size _).trans (hb6.mono (hb55.alloc hb55.size _).size) | exact ((bel_drew hb55).alloc hb55.size _).trans (hb6.mono ((bel_drew hb55).alloc hb55.size _).size) | exact (hb55.alloc hb55.size _).trans ((undrew hb6).mono (hb55.alloc hb55.size _).size)); have h6s : Y3.heap.size ≤ w6.heap.size := hb66.size; (first
                    | (have hz6 : w6.heap[w5.heap.size]? = some (BH 0 0) := (by first | exact (hb6.block _ (by simp)).trans (heap_alloc_new w5 _) | exact (hb6.block _ (by simp)).trans (heap_alloc_new w5.drew _) | exact (hb6.block _ (by show _ < Array.size _; simp)).trans (heap_alloc_new w5 _)); obtain ⟨⟨f0, f1⟩, ff⟩ := two_of hz6; have HZ6 : Hid (w6.heap[w5.heap.size]? = some (BH 0 0)) := hz6; skip; clear hz6)
                    | (have hz6 : w6.heap[Y3.heap.size]? = some (BH 0 0) := (hb6.block _ (Array.getElem?_eq_some_iff.1 hz5).1).trans hz5; obtain ⟨⟨f0, f1⟩, ff⟩ := two_of hz6; have HZ6 : Hid (w6.heap[Y3.heap.size]? = some (BH 0 0)) := hz6; skip; clear hz6 hz5)
                    | (skip)); clear hb6))
                all_goals first
                  | (obtain ⟨Y, hY⟩ : ∃ Y, Y = w6.alloc (BH qa4 qb4) := ⟨_, rfl⟩
                     rw [← hY]
                     have hYB : Below Y3.heap.size Y3 Y := by rw [hY]; exact hb66.alloc hb66.size _
                     obtain ⟨B, hB⟩ : ∃ B, B = w6.heap.size := ⟨_, rfl⟩
                     have hYX : Y.heap[B]? = some (BH qa4 qb4) := by rw [hY, hB]; exact heap_alloc_new _ _
                     rw [← hB]
                     clear hB hY)
                  | (obtain ⟨Y, hY⟩ : ∃ Y, Y = (w6.setCell ⟨w5.heap.size, 0, none⟩ (.int .i64 qa4)).setCell ⟨w5.heap.size, 1, none⟩ (.int .i64 qb4) := ⟨_, rfl⟩
                     rw [← hY]
                     have hYB : Below Y3.heap.size Y3 Y := by rw [hY]; exact Below.setCell (Below.setCell hb66 (show Y3.heap.size ≤ w5.heap.size from h5s) _) (show Y3.heap.size ≤ w5.heap.size from h5s) _
                     obtain ⟨B, hB⟩ : ∃ B, B = w5.heap.size := ⟨_, rfl⟩
                     have hYX : Y.heap[B]? = some (BH qa4 qb4) := by rw [hY, hB]; exact setBH HZ6.out
                     rw [← hB]
                     clear hB hY f0 f1 ff)
                  | (obtain ⟨Y, hY⟩ : ∃ Y, Y = (w6.setCell ⟨Y3.heap.size, 0, none⟩ (.int .i64 qa4)).setCell ⟨Y3.heap.size, 1, none⟩ (.int .i64 qb4) := ⟨_, rfl⟩
                     rw [← hY]
                     have hYB : Below Y3.heap.size Y3 Y := by rw [hY]; exact Below.setCell (Below.setCell hb66 (show Y3.heap.size ≤ Y3.heap.size from Nat.le_refl _) _) (show Y3.heap.size ≤ Y3.heap.size from Nat.le_refl _) _
                     obtain ⟨B, hB⟩ : ∃ B, B = Y3.heap.size := ⟨_, rfl⟩
                     have hYX : Y.heap[B]? = some (BH qa4 qb4) := by rw [hY, hB]; exact setBH HZ6.out
                     rw [← hB]
                     clear hB hY f0 f1 ff)
                all_goals
                  have HR : Hid (Below Y3.heap.size Y3 Y ∧ Y.heap[B]? = some (BH qa4 qb4)) := ⟨hYB, hYX⟩
                  clear hYB hYX
                  revert HR
                  revert B Y
                  exact hK.out
              intro Y4 B4 HR4
              clear HSG4 HB01 HB02
              obtain rfl : qa4 = qa2 := HQ4.out.1
              obtain rfl : qb4 = qb2 := HQ4.out.2
              have bn4 := HR4.out.1
              have HBY4 : Hid (Below w.heap.size w Y4) := HBY3.out.trans (bn4.mono HBY3.out.size)
              have HHY4 : Hid (Y4.heap[B1]? = some (BH qa4 qb4) ∧ Y4.heap[B4]? = some (BH qa4 qb4)) := ⟨(bn4.block _ (Array.getElem?_eq_some_iff.1 HHY3.out).1).trans HHY3.out, HR4.out.2⟩
              have HTY4 : Hid (TabW Y4 (.slice p6 m6 z6) T6) := HTY3.out.up bn4
              clear bn4 HLK HQ4
              obtain ⟨⟨f0, f1⟩, -⟩ := two_of HHY4.out.1
              obtain ⟨⟨g0, g1⟩, -⟩ := two_of HHY4.out.2
              have heq := fun w' => hand_same qa4 qb4 w'
              go_wp2_with fail
              refine (paths_any _ T6 _ HTY4.out (Sp.okN_sp HRR.out.1)).mono ?_
              rintro e w9 ⟨u9, rfl, ho9, hb9⟩
              obtain ⟨pz, zz, huz, -, -⟩ := ho9.open
              rw [HRR.out.2.2.2.2] at huz
              subst huz
              have HB9 : Hid (Below w.heap.size w w9) := HBY4.out.trans (hb9.mono HBY4.out.size)
              clear ho9 hb9
              go_wp2_with fail
              refine (little_any _).mono ?_
              rintro e wE ⟨rfl, hbE⟩
              have HBE : Hid (Below w.heap.size w wE) := HB9.out.trans (hbE.mono HB9.out.size)
              clear hbE
              go_wp2
              go_ret
              exact ⟨rfl, HBE.out⟩
            · have hnil : T6 = [] := by
                have h1 : pl T6 = [] := by rw [HR8.out.2.2.1]; exact Sp.rename_none (by rw [HE5.out]; exact hz5)
                simpa using h1
              have hm0 : m6 = 0 := by rw [← HR8.out.2.2.2, hnil]; rfl
              subst hm0
              have t0 : (e5 != 0) = true := by simpa using hz5
              clear hnil
              go_wp2_with fail
              refine (little_any _).mono ?_
              rintro e wE ⟨rfl, hbE⟩
              have HBE : Hid (Below w.heap.size w wE) := HB8.out.trans (hbE.mono HB8.out.size)
              clear hbE
              go_wp2
              go_ret
              exact ⟨rfl, HBE.out⟩
      · have hnil : T1x = [] := by
          have h1 : pl T1x = [] := by rw [HR1.out.2.2.2.1]; exact Sp.make_none (by rw [HE1.out.1]; exact hz1)
          simpa using h1
        have hm0 : m1x = 0 := by rw [← HR1.out.2.2.2.2, hnil]; rfl
        subst hm0
        have t0 : (e1 != 0) = true := by simpa using hz1
        clear hnil
        go_wp2_with fail
        refine (little_any _).mono ?_
        rintro e wE ⟨rfl, hbE⟩
        have HBE : Hid (Below w.heap.size w wE) := HBY1.out.trans (hbE.mono HBY1.out.size)
        clear hbE
        go_wp2
        go_ret
        exact ⟨rfl, HBE.out⟩

set_option maxRecDepth 100000 in
theorem spaceNames_lifted (os : Os) (started : os.Started) (H : Type) (enc : TypeId × Value → H) :
    ReturnsInHanded {} Try.checked os 3 .any (Rows.spaceNamesSpec.pre6 enc Try.prog Try.f3 Rows.spaceNamesRow.domain false) (Rows.spaceNamesSpec.post enc Try.prog Try.f3 false true false false) := by
  refine returnsInHanded_of_change (C := Try.checked) own started (by kernel_rfl) Try.func3
    (ChangeSpec.witness6 (enc := enc) (C := Try.checked) false ⟨#[], #[.slice none 0 0, VC 0 0 0 0 ⟨#[]⟩ ⟨#[]⟩ 0 0], []⟩ 8 (by kernel_rfl) (by kernel_rfl) (by kernel_rfl) (by kernel_rfl)) ?_
  intro W base args ds gs before hval0 hW hcnd _
  have hval : ∀ (j : Nat) t v, Try.f3.params[j]? = some t → args[j]? = some v → Value.okWide Try.prog W .any base t v := hval0
  have hW' := hW
  obtain ⟨p, q, hA0, hV, rfl, hfz, hnd⟩ := hW
  have hA : DataW.TrodAll enc Try.prog W 0 (fun _ => true) true Try.f3.params.toList args.toList ds p := hA0
  rw [Try.params3] at hA hval
  obtain ⟨v0, v1, d0, d1, p0, p1, rfl, rfl, rfl, h0, h1⟩ := trodAll_two hA
  obtain ⟨rfl, rfl⟩ := trodVars_none hV
  obtain ⟨L, hL, hs⟩ := open_stps (okWide_slice Try.underlying22 (hval 0 22 v0 rfl rfl)) h0
  obtain ⟨a, b, c, d, s, s2, k, st, rfl, hs1, hs2⟩ := open_case (hval 1 26 v1 rfl rfl) h1
  refine (spaceNames_any v0 L a b c d s s2 k st W hL hs hs1 hs2).mono fun e W' ⟨he, hg⟩ => ⟨_, he, ?_⟩
  exact Law.post laidOut (by kernel_rfl) rfl Try.underlying4 hW' rfl rfl hg

theorem spaceNames_holds : Rows.SpaceNamesSaid :=
  OpenClaim.holds_of_wide 3 Try.f3 rfl rfl rfl rfl rfl rfl rfl ⟨rfl, rfl, rfl, rfl, rfl⟩ rfl rfl rfl rfl rfl (by kernel_rfl) Try.func3 (by kernel_rfl)
    (of_decide_eq_true (by kernel_rfl)) (by unfold Func.isWrapper; first | (rw [if_pos (by decide +kernel)]; kernel_rfl) | (rw [if_neg (by decide +kernel)]; exact ⟨rfl, rfl⟩))
    (fun os started H enc _ => spaceNames_lifted os started H enc)
#print axioms spaceNames_holds
end Go.Proofs.Ytacghcoikekfeaa
