/- ZUn, ZEr, Same, OLeaving, OSame, ZSm, ZNw, ZNs, ZEm, RLate, ZLu, as one. -/
import Derived.Test.YtggoccfddnpelaaGreatQ26
namespace Go.Proofs.YtggoccfddnpelaaGreat
open Go.ChangeShapes Go.WideShapes Go.ChangeAt Go.RowKit Go.Deep It
set_option maxRecDepth 100000
set_option maxHeartbeats 4000000 in
theorem shunp_any (s : ByteArray) (w : World) (hs : s.size ≤ 1048576) (hm : Sh.Sm (Sh.rdS s).L) :
    Calls Tryz.prog 6 #[.string s] w fun e w' => ∃ L vi vo vz, e = .returned (.tuple #[.agg #[vi, vo, vz, .int .i64 (Sh.unpS s).dn], .int .i64 (Sh.unpE s)]) ∧ US w.heap.size (Sh.unpS s) L vi vo vz w' ∧ Below w.heap.size w w' := by
  obtain ⟨A2, hA2⟩ : ∃ n, n = w.heap.size := ⟨_, rfl⟩
  obtain ⟨W, hW⟩ : ∃ W, W = w.alloc BS0 := ⟨_, rfl⟩
  have HT0 : Hid (W.heap[A2]? = some BS0) := by show _ = _; rw [hW, hA2]; exact heap_alloc_new _ _
  have HB0 : Hid (Below w.heap.size w W) := by show Below _ _ _; rw [hW]; exact (Below.refl _ _).alloc (Nat.le_refl _) _
  have HW : Hid (W = w.alloc BS0 ∧ A2 = w.heap.size) := ⟨hW, hA2⟩
  have HAw : Hid (w.heap.size ≤ A2) := by show _ ≤ _; rw [hA2]; exact Nat.le_refl _
  have HZ : Hid (s.size ≤ 1048576) := hs
  have HSM : Hid (Sh.Sm (Sh.rdS s).L) := hm
  clear hs hm hW hA2
  go_enter Tryz.func6, Tryz.ntmps6
  go_wp2_with fail
  rw [← HW.out.1, ← HW.out.2]
  refine (read_any s _ HZ.out).mono ?_
  rintro e w1 ⟨L, vi, vo, vz, rfl, u1, u2, u3, u4, u5, hb⟩
  obtain ⟨x, hx⟩ : ∃ x, Sh.rdS s = x := ⟨_, rfl⟩
  rw [hx] at u1 u4 u5 ⊢
  obtain ⟨n1, hn1⟩ : ∃ n, n = W.heap.size := ⟨_, rfl⟩
  rw [← hn1] at u2 u3 u4 u5
  have HU1 : Hid (US n1 x L vi vo vz w1) := ⟨u1, u2, u3, u4, u5⟩
  have HT1 : Hid (w1.heap[A2]? = some BS0) := (hb.block _ (Array.getElem?_eq_some_iff.1 HT0.out).1).trans HT0.out
  have HB1 : Hid (Below w.heap.size w w1) := HB0.out.trans (hb.mono HB0.out.size)
  have HN1 : Hid (A2 < n1) := by show A2 < n1; rw [hn1]; exact (Array.getElem?_eq_some_iff.1 HT0.out).1
  have HXS : Hid (x = Sh.rdS s) := hx.symm
  obtain ⟨⟨ia, im, ic, rfl⟩, ⟨oa, om, oc, rfl⟩, za, zm, zc, rfl⟩ := HU1.out.slices
  obtain ⟨AX, hAX⟩ : ∃ n, n = w1.heap.size := ⟨_, rfl⟩
  obtain ⟨W2, hW2⟩ : ∃ V, V = w1.alloc (BSt (.slice ia im ic) (.slice oa om oc) (.slice za zm zc) x.dn) := ⟨_, rfl⟩
  have HU : Hid (US n1 x L (.slice ia im ic) (.slice oa om oc) (.slice za zm zc) W2) := by show US _ _ _ _ _ _ _; rw [hW2]; exact HU1.out.up ((Below.refl _ _).alloc (Nat.le_refl _) _)
  have HT : Hid (W2.heap[A2]? = some BS0) := by show _ = _; rw [hW2]; exact (Below.heap_alloc _ _ _ (Array.getElem?_eq_some_iff.1 HT1.out).1).trans HT1.out
  have HX2 : Hid (W2.heap[AX]? = some (BSt (.slice ia im ic) (.slice oa om oc) (.slice za zm zc) x.dn)) := by show _ = _; rw [hW2, hAX]; exact heap_alloc_new _ _
  have HB : Hid (Below w.heap.size w W2) := by show Below _ _ _; rw [hW2]; exact HB1.out.alloc HB1.out.size _
  clear u1 u2 u3 u4 u5 hb hx hn1 HT0 HB0 HU1 HT1 HB1
  go_wp2_with fail
  rw [← hW2, ← hAX]
  clear hW2 hAX
  have HTB := HU.out.tab (by rw [HXS.out]; exact Sh.rdS_ok s)
  refine (shpack_any _ _ _ _ L x.O x.Z _ HTB (HU.out.okN (by rw [HXS.out]; exact Sh.rdS_ok s)) HU.out.opens HU.out.seats (fun _ => by rw [HU.out.eq]; exact (by rw [HXS.out]; exact HSM.out))).mono ?_
  rintro e w3 ⟨rfl, hb⟩
  have HU3 : Hid (US n1 x L (.slice ia im ic) (.slice oa om oc) (.slice za zm zc) w3) := HU.out.up hb
  have HT3 : Hid (w3.heap[A2]? = some BS0) := (hb.block _ (Array.getElem?_eq_some_iff.1 HT.out).1).trans HT.out
  have HX3 : Hid (w3.heap[AX]? = some (BSt (.slice ia im ic) (.slice oa om oc) (.slice za zm zc) x.dn)) := (hb.block _ (Array.getElem?_eq_some_iff.1 HX2.out).1).trans HX2.out
  have HB3 : Hid (Below w.heap.size w w3) := HB.out.trans (hb.mono HB.out.size)
  rw [HU.out.eq]
  obtain ⟨q, hq⟩ : ∃ q, Sh.isS x s = q := ⟨_, rfl⟩
  clear hb HTB
  cases q with
  | true =>
    obtain ⟨h1, h2⟩ := (Sh.isS_iff x s).1 hq
    have HRES : Hid (Sh.unpS s = x ∧ Sh.unpE s = 0) := Sh.unp_yes (.inl HXS.out) hq
    rw [h1, h2]
    have t1 : (s.toList == s.toList) = true := beq_self_eq_true _
    have b0 := cell_at HX3.out 0
    have b1 := cell_at HX3.out 1
    have b2 := cell_at HX3.out 2
    have b3 := cell_at HX3.out 3
    simp at b0 b1 b2 b3
    clear h1 h2 hq
    have f0 := fr_at HT3.out
    have c0 := cell_at HT3.out 0
    have c1 := cell_at HT3.out 1
    have c2 := cell_at HT3.out 2
    have c3 := cell_at HT3.out 3
    simp at c0 c1 c2 c3
    have HF : Hid ((put4 w3 A2 (.slice ia im ic) (.slice oa om oc) (.slice za zm zc) (.int .i64 x.dn)).heap[A2]? = some (.cells #[.slice ia im ic, .slice oa om oc, .slice za zm zc, .int .i64 x.dn] 27)) := put4_at HT3.out
    have HBF : Hid (Below w.heap.size w (put4 w3 A2 (.slice ia im ic) (.slice oa om oc) (.slice za zm zc) (.int .i64 x.dn))) := HB3.out.grown (put4_gr _ _ _ _ _ _) HB3.out.size (fun j hj => by cases hj; exact HAw.out)
    have HUF : Hid (US w.heap.size x L (.slice ia im ic) (.slice oa om oc) (.slice za zm zc) (put4 w3 A2 (.slice ia im ic) (.slice oa om oc) (.slice za zm zc) (.int .i64 x.dn))) := (HU3.out.kept (put4_gr _ _ _ _ _ _) (HN1.out)).low (Nat.le_of_lt (Nat.lt_of_le_of_lt HAw.out HN1.out))
    go_wp2
    have HE9 : Hid (((((w3.setCell ⟨A2, 0, none⟩ (.slice ia im ic)).setCell ⟨A2, 1, none⟩ (.slice oa om oc)).setCell ⟨A2, 2, none⟩ (.slice za zm zc)).setCell ⟨A2, 3, none⟩ (.int .i64 x.dn)) = put4 w3 A2 (.slice ia im ic) (.slice oa om oc) (.slice za zm zc) (.int .i64 x.dn)) := rfl
    rw [HE9.out]
    generalize put4 w3 A2 (.slice ia im ic) (.slice oa om oc) (.slice za zm zc) (.int .i64 x.dn) = WF at HF HBF HUF HE9 ⊢
    clear HE9
    have d0 := cell_at HF.out 0
    have d1 := cell_at HF.out 1
    have d2 := cell_at HF.out 2
    have d3 := cell_at HF.out 3
    simp at d0 d1 d2 d3
    refine bodyPost_ret (v := .tuple #[.agg #[.slice ia im ic, .slice oa om oc, .slice za zm zc, .int .i64 x.dn], .int .i64 0]) (by simp [results, Tryz.results6, go_sem, d0, d1, d2, d3]) rfl ⟨L, .slice ia im ic, .slice oa om oc, .slice za zm zc, ?_, ?_, HBF.out⟩
    · rw [HRES.out.1, HRES.out.2]
    · rw [HRES.out.1]
      exact HUF.out
  | false =>
    have HRES : Hid (Sh.unpS s = Sh.st0 ∧ Sh.unpE s = 4) := Sh.unp_no (.inl HXS.out) hq
    have hq' : ¬ (Sh.pkE x.L x.O x.Z x.dn = 0 ∧ Sh.pkO x.L x.O x.Z x.dn = s) := fun h => by rw [(Sh.isS_iff x s).2 h] at hq; cases hq
    clear hq HX3
    generalize Sh.pkE x.L x.O x.Z x.dn = pe at *
    generalize Sh.pkO x.L x.O x.Z x.dn = po at *
    by_cases h0 : pe = 0
    · have h3 : po ≠ s := fun h => hq' ⟨h0, h⟩
      have t1 := Ks.Rs.str_ne h3
      subst h0
      clear hq' h3
      have f0 := fr_at HT3.out
      have c0 := cell_at HT3.out 0
      have c1 := cell_at HT3.out 1
      have c2 := cell_at HT3.out 2
      have c3 := cell_at HT3.out 3
      simp at c0 c1 c2 c3
      have HF : Hid ((put4 w3 A2 (.slice none 0 0) (.slice none 0 0) (.slice none 0 0) (.int .i64 0)).heap[A2]? = some (.cells #[.slice none 0 0, .slice none 0 0, .slice none 0 0, .int .i64 0] 27)) := put4_at HT3.out
      have HBF : Hid (Below w.heap.size w (put4 w3 A2 (.slice none 0 0) (.slice none 0 0) (.slice none 0 0) (.int .i64 0))) := HB3.out.grown (put4_gr _ _ _ _ _ _) HB3.out.size (fun j hj => by cases hj; exact HAw.out)
      go_wp2
      have HE9 : Hid (((((w3.setCell ⟨A2, 0, none⟩ (.slice none 0 0)).setCell ⟨A2, 1, none⟩ (.slice none 0 0)).setCell ⟨A2, 2, none⟩ (.slice none 0 0)).setCell ⟨A2, 3, none⟩ (.int .i64 0)) = put4 w3 A2 (.slice none 0 0) (.slice none 0 0) (.slice none 0 0) (.int .i64 0)) := rfl
      rw [HE9.out]
      generalize put4 w3 A2 (.slice none 0 0) (.slice none 0 0) (.slice none 0 0) (.int .i64 0) = WF at HF HBF HE9 ⊢
      clear HE9
      have d0 := cell_at HF.out 0
      have d1 := cell_at HF.out 1
      have d2 := cell_at HF.out 2
      have d3 := cell_at HF.out 3
      simp at d0 d1 d2 d3
      refine bodyPost_ret (v := .tuple #[.agg #[.slice none 0 0, .slice none 0 0, .slice none 0 0, .int .i64 0], .int .i64 4]) (by simp [results, Tryz.results6, go_sem, d0, d1, d2, d3]) rfl ⟨[], .slice none 0 0, .slice none 0 0, .slice none 0 0, ?_, ?_, HBF.out⟩
      · rw [HRES.out.1, HRES.out.2]; rfl
      · rw [HRES.out.1]
        exact US.none _ _
    · have t2 : (pe != 0) = true := by simp [h0]
      clear hq' h0
      have f0 := fr_at HT3.out
      have c0 := cell_at HT3.out 0
      have c1 := cell_at HT3.out 1
      have c2 := cell_at HT3.out 2
      have c3 := cell_at HT3.out 3
      simp at c0 c1 c2 c3
      have HF : Hid ((put4 w3 A2 (.slice none 0 0) (.slice none 0 0) (.slice none 0 0) (.int .i64 0)).heap[A2]? = some (.cells #[.slice none 0 0, .slice none 0 0, .slice none 0 0, .int .i64 0] 27)) := put4_at HT3.out
      have HBF : Hid (Below w.heap.size w (put4 w3 A2 (.slice none 0 0) (.slice none 0 0) (.slice none 0 0) (.int .i64 0))) := HB3.out.grown (put4_gr _ _ _ _ _ _) HB3.out.size (fun j hj => by cases hj; exact HAw.out)
      go_wp2
      have HE9 : Hid (((((w3.setCell ⟨A2, 0, none⟩ (.slice none 0 0)).setCell ⟨A2, 1, none⟩ (.slice none 0 0)).setCell ⟨A2, 2, none⟩ (.slice none 0 0)).setCell ⟨A2, 3, none⟩ (.int .i64 0)) = put4 w3 A2 (.slice none 0 0) (.slice none 0 0) (.slice none 0 0) (.int .i64 0)) := rfl
      rw [HE9.out]
      generalize put4 w3 A2 (.slice none 0 0) (.slice none 0 0) (.slice none 0 0) (.int .i64 0) = WF at HF HBF HE9 ⊢
      clear HE9
      have d0 := cell_at HF.out 0
      have d1 := cell_at HF.out 1
      have d2 := cell_at HF.out 2
      have d3 := cell_at HF.out 3
      simp at d0 d1 d2 d3
      refine bodyPost_ret (v := .tuple #[.agg #[.slice none 0 0, .slice none 0 0, .slice none 0 0, .int .i64 0], .int .i64 4]) (by simp [results, Tryz.results6, go_sem, d0, d1, d2, d3]) rfl ⟨[], .slice none 0 0, .slice none 0 0, .slice none 0 0, ?_, ?_, HBF.out⟩
      · rw [HRES.out.1, HRES.out.2]; rfl
      · rw [HRES.out.1]
        exact US.none _ _
end Go.Proofs.YtggoccfddnpelaaGreat
namespace Go.Proofs.YtggoccfddnpelaaGreat.Es
open Go.ChangeShapes Go.WideShapes Go.ChangeAt Go.RowKit Go.Deep
set_option maxRecDepth 100000
theorem eql_sea (w : World) (x : Sea) : (binOp .neq 60 (VS x) (VS x)).run Tryz.prog w = .ok (.bool false) w := by
  obtain ⟨x0, x1, x2⟩ := x
  go_simp
theorem seats_same {S T : Nat → Prop} (u v : Value) (l : List Sea) (w : World) (hu : At ES S w u l) (hv : At ES T w v l) :
    Calls Tryz.prog 20 #[u, v] w fun e w' => e = .returned (.bool true) ∧ Below w.heap.size w w' := by
  obtain ⟨ao, cap, rfl, hm, hx⟩ := hu.wide.open
  obtain ⟨bo, cap', rfl, -, hy⟩ := hv.wide.open
  clear hu hv
  unfold maxLen at hm
  obtain ⟨n, hn⟩ : ∃ n, l.length = n := ⟨_, rfl⟩
  rw [hn] at hm ⊢
  have HN : Hid (l.length = n) := hn
  have HX : Hid (Over w ao l) := hx
  have HY : Hid (Over w bo l) := hy
  clear hn hx hy
  go_enter Tryz.func20, Tryz.ntmps20
  go_wp2
  go_loopw [8] (fun i wr => ∃ k : Nat, k ≤ n ∧ i = .int .i64 k ∧ Hid (Below w.heap.size w wr)) (fun i _ => n - (intOf i).toNat)
  case atStart => exact ⟨0, Nat.zero_le _, rfl, Below.refl _ _⟩
  case round =>
    obtain ⟨k, hk, rfl, HB⟩ := hrel
    by_cases hlt : k < n
    · obtain ⟨x, hxk⟩ : ∃ x, l[k]? = some x := ⟨_, List.getElem?_eq_getElem (by rw [HN.out]; exact hlt)⟩
      obtain ⟨b, off, rfl, -, hB, hc⟩ := HX.out k x hxk
      obtain ⟨b', off', rfl, -, hB', hc'⟩ := HY.out k x hxk
      obtain ⟨c0, c1, c2⟩ := sea_cells HB.out hB hc
      obtain ⟨d0, d1, d2⟩ := sea_cells HB.out hB' hc'
      clear hc hc' hxk
      have hlt' : (k : Int) < (n : Int) := by omega
      have hge : decide ((n : Int) ≤ (k : Int)) = false := decide_eq_false (by omega)
      have heq : ∀ w', (binOp .neq 60 (VS x) (VS x)).run Tryz.prog w' = .ok (.bool false) w' := fun w' => eql_sea w' x
      have HB2 : Hid (∀ q, Below w.heap.size w (wr.drewN q)) := fun _ => ⟨HB.out.os, HB.out.tape, HB.out.output, HB.out.size, HB.out.block⟩
      go_wp2_with fail
      go_quiet (fail)
      go_wp2
      go_roundw
      case rel => exact ⟨k + 1, by omega, by go_num, HB2.out _⟩
      case measure => simp [intOf]; omega
    · obtain rfl : k = n := by omega
      go_wp2
      go_ret
      exact ⟨rfl, HB.out⟩
end Go.Proofs.YtggoccfddnpelaaGreat.Es
namespace Go.Proofs.YtggoccfddnpelaaGreat
open Go.ChangeShapes Go.WideShapes Go.ChangeAt Go.RowKit Go.Deep It
set_option maxRecDepth 100000
set_option maxHeartbeats 1000000 in
theorem entries_same {S T : Nat → Prop} (u v : Value) (l : List (ByteArray × Int × Int × Int)) (w : World) (hu : At EE S w u l) (hv : At EE T w v l) :
    Calls Tryz.prog 40 #[u, v] w fun e w' => e = .returned (.bool true) ∧ Below w.heap.size w w' := by
  obtain ⟨ao, cap, rfl, hm, hx⟩ := hu.open
  obtain ⟨bo, cap', rfl, _, hy⟩ := hv.open
  clear hu hv
  unfold maxLen at hm
  obtain ⟨n, hn⟩ : ∃ n, l.length = n := ⟨_, rfl⟩
  rw [hn] at hm ⊢
  have HN : Hid (l.length = n) := hn
  have HX : Hid (∀ i x, l[i]? = some x → ∃ b off, ao = some ⟨b, off, none⟩ ∧ S b ∧ b < w.heap.size ∧ ∀ k u, (EE.cells x)[k]? = some u → w.cell? ⟨b, off + (i * 4 + k), none⟩ = some u) := hx
  have HY : Hid (∀ i x, l[i]? = some x → ∃ b off, bo = some ⟨b, off, none⟩ ∧ T b ∧ b < w.heap.size ∧ ∀ k u, (EE.cells x)[k]? = some u → w.cell? ⟨b, off + (i * 4 + k), none⟩ = some u) := hy
  clear hn hx hy
  go_enter Tryz.func40, Tryz.ntmps40
  go_wp2
  go_loopw [8] (fun i wr => ∃ k : Nat, k ≤ n ∧ i = .int .i64 k ∧ Below w.heap.size w wr) (fun i _ => n - (intOf i).toNat)
  case atStart => exact ⟨0, Nat.zero_le _, rfl, Below.refl _ _⟩
  case round =>
    obtain ⟨k, hk, rfl, hbl⟩ := hrel
    by_cases hlt : k < n
    · obtain ⟨y, hyk⟩ : ∃ y, l[k]? = some y := ⟨_, List.getElem?_eq_getElem (by rw [HN.out]; exact hlt)⟩
      obtain ⟨b, off, rfl, _, hB, hc⟩ := HX.out k y hyk
      obtain ⟨b', off', rfl, _, hB', hc'⟩ := HY.out k y hyk
      have c0 := hc 0 _ rfl
      have c1 := hc 1 _ rfl
      have c2 := hc 2 _ rfl
      have c3 := hc 3 _ rfl
      have d0 := hc' 0 _ rfl
      have d1 := hc' 1 _ rfl
      have d2 := hc' 2 _ rfl
      have d3 := hc' 3 _ rfl
      rw [← hbl.cell (p := ⟨b, off + (k * 4 + 0), none⟩) hB, Nat.add_zero] at c0
      rw [← hbl.cell (p := ⟨b, off + (k * 4 + 1), none⟩) hB, ← Nat.add_assoc] at c1
      rw [← hbl.cell (p := ⟨b, off + (k * 4 + 2), none⟩) hB, ← Nat.add_assoc] at c2
      rw [← hbl.cell (p := ⟨b, off + (k * 4 + 3), none⟩) hB, ← Nat.add_assoc] at c3
      rw [← hbl.cell (p := ⟨b', off' + (k * 4 + 0), none⟩) hB', Nat.add_zero] at d0
      rw [← hbl.cell (p := ⟨b', off' + (k * 4 + 1), none⟩) hB', ← Nat.add_assoc] at d1
      rw [← hbl.cell (p := ⟨b', off' + (k * 4 + 2), none⟩) hB', ← Nat.add_assoc] at d2
      rw [← hbl.cell (p := ⟨b', off' + (k * 4 + 3), none⟩) hB', ← Nat.add_assoc] at d3
      obtain ⟨y0, y1, y2, y3⟩ := y
      simp only at c0 c1 c2 c3 d0 d1 d2 d3
      have hlt' : (k : Int) < (n : Int) := by omega
      have hge : decide ((n : Int) ≤ (k : Int)) = false := by simp; omega
      have hge2 : decide (n ≤ k) = false := by simp; omega
      clear hyk hc hc'
      go_wp2
      go_quiet (fail)
      go_wp2
      go_roundw
      case rel => exact ⟨k + 1, by omega, by go_num, Go.below_drewN hbl _⟩
      case measure => simp [intOf]; omega
    · obtain rfl : k = n := by omega
      go_wp2
      go_ret
      exact ⟨by simp, hbl⟩
theorem eight_grw {w : World} {b o : Nat} {x : Rw} (h : eight w b o x) (p : Grw w) : eight p.out b o x := h.below p.below (World.block_lt_of_cell? _ _ h.1)
set_option maxHeartbeats 4000000 in
set_option maxRecDepth 100000 in
theorem inodes_same {S T : Nat → Prop} (u v : Value) (L M : List Rw) (w : World) (hu : TabAt S w u L) (hv : TabAt T w v M) (hp : pl L = pl M) :
    Calls Tryz.prog 18 #[u, v] w fun e w' => e = .returned (.bool true) ∧ Below w.heap.size w w' := by
  obtain ⟨ao, cap, rfl, hm, hx⟩ := hu.open
  obtain ⟨bo, cap', rfl, _, hy⟩ := hv.open
  clear hu hv
  unfold maxLen at hm
  have hlen : M.length = L.length := by have := congrArg List.length hp; simpa [pl] using this.symm
  rw [hlen]
  obtain ⟨n, hn⟩ : ∃ n, L.length = n := ⟨_, rfl⟩
  rw [hn] at hm hlen ⊢
  have HN : Hid (L.length = n ∧ M.length = n) := ⟨hn, hlen⟩
  have HP : Hid (pl L = pl M) := hp
  have HX : Hid (∀ i x, L[i]? = some x → (∃ b off, ao = some ⟨b, off, none⟩ ∧ b < w.heap.size ∧ eight w b (off + i * 8) x) ∧ Good S w x) := hx
  have HY : Hid (∀ i x, M[i]? = some x → (∃ b off, bo = some ⟨b, off, none⟩ ∧ b < w.heap.size ∧ eight w b (off + i * 8) x) ∧ Good T w x) := hy
  clear hn hlen hx hy hp
  go_enter Tryz.func18, Tryz.ntmps18
  go_wp2
  go_loopw [8] (fun i wr => ∃ k : Nat, k ≤ n ∧ i = .int .i64 k ∧ Below w.heap.size w wr) (fun i _ => n - (intOf i).toNat)
  case atStart => exact ⟨0, Nat.zero_le _, rfl, Below.refl _ _⟩
  case round =>
    obtain ⟨k, hk, rfl, hbl⟩ := hrel
    by_cases hlt : k < n
    · obtain ⟨x, hxk⟩ : ∃ y, L[k]? = some y := ⟨_, List.getElem?_eq_getElem (by rw [HN.out.1]; exact hlt)⟩
      obtain ⟨y, hyk⟩ : ∃ y, M[k]? = some y := ⟨_, List.getElem?_eq_getElem (by rw [HN.out.2]; exact hlt)⟩
      have hxy : y.i = x.i := by
        have := congrArg (fun l => l[k]?) HP.out
        simp only [pl, List.getElem?_map, hxk, hyk, Option.map_some, Option.some.injEq] at this
        exact this.symm
      obtain ⟨⟨b, off, rfl, hB, hc⟩, hgx⟩ := HX.out k x hxk
      obtain ⟨⟨b', off', rfl, hB', hc'⟩, hgy⟩ := HY.out k y hyk
      have HR : Hid (∀ W, wr.grownBy W none → Calls Tryz.prog 39 #[.slice x.rp x.rn x.rc, .slice y.rp y.rn y.rc] W fun e w' => e = .returned (.bool true) ∧ Below W.heap.size W w') := fun W hW => by
        have h1 := ((hgx.up hbl).up (below_none hW (Nat.le_refl _))).1.fields
        have h2 := ((hgy.up hbl).up (below_none hW (Nat.le_refl _))).1.fields
        rw [hxy] at h2
        exact runs_same _ _ _ W h1 h2
      have HE : Hid (∀ W, wr.grownBy W none → Calls Tryz.prog 40 #[.slice x.ep x.en x.ec, .slice y.ep y.en y.ec] W fun e w' => e = .returned (.bool true) ∧ Below W.heap.size W w') := fun W hW => by
        have h1 := ((hgx.up hbl).up (below_none hW (Nat.le_refl _))).2.1
        have h2 := ((hgy.up hbl).up (below_none hW (Nat.le_refl _))).2.1
        rw [hxy] at h2
        exact entries_same _ _ _ W h1 h2
      have hcx := eight_grw (hc.below hbl hB)
      have hcy := eight_grw (hc'.below hbl hB')
      unfold eight at hcx hcy
      rw [hxy] at hcy
      have HB : Hid (Below w.heap.size w wr) := hbl
      obtain ⟨⟨g, kk, l, s, t, rs, es, nx⟩, rp, rn, rc, ep, en, ec⟩ := x
      obtain ⟨yi, yrp, yrn, yrc, yep, yen, yec⟩ := y
      simp only at hcx hcy HR HE
      have a0 := fun p => (hcx p).1
      have a1 := fun p => (hcx p).2.1
      have a2 := fun p => (hcx p).2.2.1
      have a3 := fun p => (hcx p).2.2.2.1
      have a4 := fun p => (hcx p).2.2.2.2.1
      have a5 := fun p => (hcx p).2.2.2.2.2.1
      have a6 := fun p => (hcx p).2.2.2.2.2.2.1
      have a7 := fun p => (hcx p).2.2.2.2.2.2.2
      have b0 := fun p => (hcy p).1
      have b1 := fun p => (hcy p).2.1
      have b2 := fun p => (hcy p).2.2.1
      have b3 := fun p => (hcy p).2.2.2.1
      have b4 := fun p => (hcy p).2.2.2.2.1
      have b5 := fun p => (hcy p).2.2.2.2.2.1
      have b6 := fun p => (hcy p).2.2.2.2.2.2.1
      have b7 := fun p => (hcy p).2.2.2.2.2.2.2
      have hlt' : (k : Int) < (n : Int) := by omega
      have hge : decide ((n : Int) ≤ (k : Int)) = false := by simp; omega
      have hge2 : decide (n ≤ k) = false := by simp; omega
      have hne9 : Nonempty (Grw wr) := grw_some wr
      clear hxk hyk hxy hc hc' hgx hgy hcx hcy hbl hB hB'
      go_wp2_with fail
      simp only [List.cons_append, List.nil_append, List.append_eq]
      refine wp_region_grw (by kernel_rfl) (by kernel_rfl) ?_
      repeat (go_big_quiet_step (first | (go_at_call 39; refine calls_grw (Grw.grown _) (HR.out _ (Grw.grown _))) | (go_at_call 40; refine calls_grw (Grw.grown _) (HE.out _ (Grw.grown _)))))
      refine wpQuiet_nil ?_
      rintro wq ⟨p, rfl⟩
      have HBq : Hid (Below w.heap.size w p.out) := HB.out.trans (p.below.mono HB.out.size)
      go_wp2
      go_roundw
      case rel => exact ⟨k + 1, by omega, by go_num, HBq.out⟩
      case measure => simp [intOf]; omega
    · obtain rfl : k = n := by omega
      go_wp2
      go_ret
      exact ⟨by simp, hbl⟩
end Go.Proofs.YtggoccfddnpelaaGreat
namespace Go.Proofs.YtggoccfddnpelaaGreat.Os
open Go.ChangeShapes Go.WideShapes Go.ChangeAt Go.RowKit Go.Deep
set_option maxRecDepth 100000
def EI : Enc Int := ⟨1, fun x => [.int .i64 x], fun _ => rfl, fun x u hu => by
  simp at hu
  subst hu
  rfl⟩
namespace Op
end Op
set_option maxHeartbeats 1000000 in
theorem opens_same {S T : Nat → Prop} (u v : Value) (l : List Opn) (w : World) (hu : At EO S w u l) (hv : At EO T w v l) :
    Calls Tryz.prog 19 #[u, v] w fun e w' => e = .returned (.bool true) ∧ Below w.heap.size w w' := by
  obtain ⟨ao, cap, rfl, hm, hx⟩ := hu.open
  obtain ⟨bo, cap', rfl, _, hy⟩ := hv.open
  clear hu hv
  unfold maxLen at hm
  obtain ⟨n, hn⟩ : ∃ n, l.length = n := ⟨_, rfl⟩
  rw [hn] at hm ⊢
  have HN : Hid (l.length = n) := hn
  have HX : Hid (∀ i x, l[i]? = some x → ∃ b off, ao = some ⟨b, off, none⟩ ∧ S b ∧ b < w.heap.size ∧ ∀ k u, (EO.cells x)[k]? = some u → w.cell? ⟨b, off + (i * 4 + k), none⟩ = some u) := hx
  have HY : Hid (∀ i x, l[i]? = some x → ∃ b off, bo = some ⟨b, off, none⟩ ∧ T b ∧ b < w.heap.size ∧ ∀ k u, (EO.cells x)[k]? = some u → w.cell? ⟨b, off + (i * 4 + k), none⟩ = some u) := hy
  clear hn hx hy
  go_enter Tryz.func19, Tryz.ntmps19
  go_wp2
  go_loopw [8] (fun i wr => ∃ k : Nat, k ≤ n ∧ i = .int .i64 k ∧ Below w.heap.size w wr) (fun i _ => n - (intOf i).toNat)
  case atStart => exact ⟨0, Nat.zero_le _, rfl, Below.refl _ _⟩
  case round =>
    obtain ⟨k, hk, rfl, hbl⟩ := hrel
    by_cases hlt : k < n
    · obtain ⟨y, hyk⟩ : ∃ y, l[k]? = some y := ⟨_, List.getElem?_eq_getElem (by rw [HN.out]; exact hlt)⟩
      obtain ⟨b, off, rfl, _, hB, hc⟩ := HX.out k y hyk
      obtain ⟨b', off', rfl, _, hB', hc'⟩ := HY.out k y hyk
      have c0 := hc 0 _ rfl
      have c1 := hc 1 _ rfl
      have c2 := hc 2 _ rfl
      have c3 := hc 3 _ rfl
      have d0 := hc' 0 _ rfl
      have d1 := hc' 1 _ rfl
      have d2 := hc' 2 _ rfl
      have d3 := hc' 3 _ rfl
      rw [← hbl.cell (p := ⟨b, off + (k * 4 + 0), none⟩) hB, Nat.add_zero] at c0
      rw [← hbl.cell (p := ⟨b, off + (k * 4 + 1), none⟩) hB, ← Nat.add_assoc] at c1
      rw [← hbl.cell (p := ⟨b, off + (k * 4 + 2), none⟩) hB, ← Nat.add_assoc] at c2
      rw [← hbl.cell (p := ⟨b, off + (k * 4 + 3), none⟩) hB, ← Nat.add_assoc] at c3
      rw [← hbl.cell (p := ⟨b', off' + (k * 4 + 0), none⟩) hB', Nat.add_zero] at d0
      rw [← hbl.cell (p := ⟨b', off' + (k * 4 + 1), none⟩) hB', ← Nat.add_assoc] at d1
      rw [← hbl.cell (p := ⟨b', off' + (k * 4 + 2), none⟩) hB', ← Nat.add_assoc] at d2
      rw [← hbl.cell (p := ⟨b', off' + (k * 4 + 3), none⟩) hB', ← Nat.add_assoc] at d3
      obtain ⟨y0, y1, y2, y3⟩ := y
      simp only at c0 c1 c2 c3 d0 d1 d2 d3
      have hlt' : (k : Int) < (n : Int) := by omega
      have hge : decide ((n : Int) ≤ (k : Int)) = false := by simp; omega
      have hge2 : decide (n ≤ k) = false := by simp; omega
      clear hyk hc hc'
      go_wp2
      go_quiet (fail)
      go_wp2
      go_roundw
      case rel => exact ⟨k + 1, by omega, by go_num, Go.below_drewN hbl _⟩
      case measure => simp [intOf]; omega
    · obtain rfl : k = n := by omega
      go_wp2
      go_ret
      exact ⟨by simp, hbl⟩
end Go.Proofs.YtggoccfddnpelaaGreat.Os
namespace Go.Proofs.YtggoccfddnpelaaGreat
open Go.ChangeShapes Go.WideShapes Go.ChangeAt Go.RowKit Go.Deep It
set_option maxRecDepth 100000
theorem two_st (w : World) (x y : Obj) : Below w.heap.size w ((w.alloc x).alloc y) := ((Below.refl _ _).alloc (Nat.le_refl _) _).alloc (by simp) _
set_option maxHeartbeats 4000000 in
theorem state_same {S T S2 T2 S3 T3 : Nat → Prop} (vi vo vs ui uo us : Value) (dn : Int) (L M : List Rw) (O : List Os.Opn) (Z : List Es.Sea) (w : World) (h1 : TabAt S w vi L) (h2 : TabAt T w ui M) (hp : pl L = pl M) (h3 : At Os.EO S2 w vo O) (h4 : At Os.EO T2 w uo O) (h5 : At Es.ES S3 w vs Z) (h6 : At Es.ES T3 w us Z) :
    Calls Tryz.prog 8 #[VSt vi vo vs dn, VSt ui uo us dn] w fun e w' => e = .returned (.bool true) ∧ Below w.heap.size w w' := by
  have H1 : Hid (TabAt S w vi L) := h1
  have H2 : Hid (TabAt T w ui M) := h2
  have H3 : Hid (At Os.EO S2 w vo O) := h3
  have H4 : Hid (At Os.EO T2 w uo O) := h4
  have H5 : Hid (At Es.ES S3 w vs Z) := h5
  have H6 : Hid (At Es.ES T3 w us Z) := h6
  have HP : Hid (pl L = pl M) := hp
  obtain ⟨a1, b1, e1, -, -⟩ := h1.open
  obtain ⟨a2, b2, e2, -, -⟩ := h2.open
  obtain ⟨a3, b3, e3, -, -⟩ := h3.open
  obtain ⟨a4, b4, e4, -, -⟩ := h4.open
  obtain ⟨a5, b5, e5, -, -⟩ := h5.open
  obtain ⟨a6, b6, e6, -, -⟩ := h6.open
  obtain ⟨n1, hn1⟩ : ∃ n, L.length = n := ⟨_, rfl⟩
  obtain ⟨n2, hn2⟩ : ∃ n, M.length = n := ⟨_, rfl⟩
  obtain ⟨n3, hn3⟩ : ∃ n, O.length = n := ⟨_, rfl⟩
  obtain ⟨n4, hn4⟩ : ∃ n, Z.length = n := ⟨_, rfl⟩
  rw [hn1] at e1
  rw [hn2] at e2
  rw [hn3] at e3 e4
  rw [hn4] at e5 e6
  subst e1 e2 e3 e4 e5 e6
  have t0 : (dn == dn) = true := beq_self_eq_true _
  have HW : Hid (∀ x y : Obj, Below w.heap.size w ((w.alloc x).alloc y)) := two_st w
  obtain ⟨W, hW⟩ : ∃ W, W = (w.alloc (BSt (.slice a1 n1 b1) (.slice a3 n3 b3) (.slice a5 n4 b5) dn)).alloc (BSt (.slice a2 n2 b2) (.slice a4 n3 b4) (.slice a6 n4 b6) dn) := ⟨_, rfl⟩
  have HB : Hid (Below w.heap.size w W) := by show Below _ _ _; rw [hW]; exact HW.out _ _
  have HX : Hid (W.heap[w.heap.size]? = some (BSt (.slice a1 n1 b1) (.slice a3 n3 b3) (.slice a5 n4 b5) dn)) := by show _ = _; rw [hW]; exact (Below.heap_alloc _ _ _ (by simp)).trans (heap_alloc_new _ _)
  have HY : Hid (W.heap[w.heap.size + 1]? = some (BSt (.slice a2 n2 b2) (.slice a4 n3 b4) (.slice a6 n4 b6) dn)) := by show _ = _; rw [hW]; have h := heap_alloc_new (w.alloc (BSt (.slice a1 n1 b1) (.slice a3 n3 b3) (.slice a5 n4 b5) dn)) (BSt (.slice a2 n2 b2) (.slice a4 n3 b4) (.slice a6 n4 b6) dn); simpa using h
  clear h1 h2 h3 h4 h5 h6 hn1 hn2 hn3 hn4 hp
  go_enter Tryz.func8, Tryz.ntmps8
  go_wp2_with fail
  rw [← hW]
  clear hW
  refine (inodes_same _ _ L M _ (H1.out.up HB.out) (H2.out.up HB.out) HP.out).mono ?_
  rintro e' w1 ⟨rfl, hb1⟩
  have HB1 : Hid (Below w.heap.size w w1) := HB.out.trans (hb1.mono HB.out.size)
  have HX1 : Hid (w1.heap[w.heap.size]? = some (BSt (.slice a1 n1 b1) (.slice a3 n3 b3) (.slice a5 n4 b5) dn)) := (hb1.block _ (Array.getElem?_eq_some_iff.1 HX.out).1).trans HX.out
  have HY1 : Hid (w1.heap[w.heap.size + 1]? = some (BSt (.slice a2 n2 b2) (.slice a4 n3 b4) (.slice a6 n4 b6) dn)) := (hb1.block _ (Array.getElem?_eq_some_iff.1 HY.out).1).trans HY.out
  obtain ⟨x0, x1, x2, x3⟩ := st_of HX1.out
  obtain ⟨y0, y1, y2, y3⟩ := st_of HY1.out
  clear hb1
  go_wp2_with fail
  refine (Os.opens_same _ _ O _ (H3.out.up HB1.out) (H4.out.up HB1.out)).mono ?_
  rintro e' w2 ⟨rfl, hb2⟩
  have HB2 : Hid (Below w.heap.size w w2) := HB1.out.trans (hb2.mono HB1.out.size)
  have HX2 : Hid (w2.heap[w.heap.size]? = some (BSt (.slice a1 n1 b1) (.slice a3 n3 b3) (.slice a5 n4 b5) dn)) := (hb2.block _ (Array.getElem?_eq_some_iff.1 HX1.out).1).trans HX1.out
  have HY2 : Hid (w2.heap[w.heap.size + 1]? = some (BSt (.slice a2 n2 b2) (.slice a4 n3 b4) (.slice a6 n4 b6) dn)) := (hb2.block _ (Array.getElem?_eq_some_iff.1 HY1.out).1).trans HY1.out
  clear hb2 x0 x1 x2 x3 y0 y1 y2 y3
  obtain ⟨x0, x1, x2, x3⟩ := st_of HX2.out
  obtain ⟨y0, y1, y2, y3⟩ := st_of HY2.out
  go_wp2_with fail
  refine (Es.seats_same _ _ Z _ (H5.out.up HB2.out) (H6.out.up HB2.out)).mono ?_
  rintro e' w3 ⟨rfl, hb3⟩
  go_wp2
  go_ret
  exact ⟨rfl, HB2.out.trans (hb3.mono HB2.out.size)⟩
set_option maxHeartbeats 2000000 in
theorem nnew_any (w : World) : Calls Tryz.prog 26 #[] w fun e w' => ∃ ap n cp L, e = .returned (VSt (.slice ap n cp) (.slice none 0 0) (.slice none 0 0) 0) ∧ TabAt (fun b => w.heap.size ≤ b) w' (.slice ap n cp) L ∧ pl L = It.new ∧ Below w.heap.size w w' := by
  obtain ⟨W, hW⟩ : ∃ W, W = w.alloc BS0 := ⟨_, rfl⟩
  have HB0 : Hid (Below w.heap.size w W) := by show Below w.heap.size w W; rw [hW]; exact (Below.refl _ w).alloc (Nat.le_refl _) _
  have HA0 : Hid (W.heap[w.heap.size]? = some BS0) := by show W.heap[w.heap.size]? = _; rw [hW]; exact heap_alloc_new _ _
  have hwW : w.heap.size < W.heap.size := (Array.getElem?_eq_some_iff.1 HA0.out).1
  go_enter Tryz.func26, Tryz.ntmps26
  go_wp2_with fail
  rw [← hW]
  clear hW
  refine (new_any W).mono ?_
  rintro e w1 ⟨u, L, rfl, ht, hp, hb⟩
  obtain ⟨ap, cp, hu, -, -⟩ := ht.open
  obtain ⟨n, hn⟩ : ∃ n, L.length = n := ⟨_, rfl⟩
  rw [hn] at hu
  subst hu
  have HT1 : Hid (TabAt (fun b => w.heap.size < b) w1 (.slice ap n cp) L) := ht.imp (fun b hb _ => by omega)
  have HP1 : Hid (pl L = It.new) := hp
  have HB1 : Hid (Below w.heap.size w w1) := HB0.out.trans (hb.mono HB0.out.size)
  have HA1 : Hid (w1.heap[w.heap.size]? = some BS0) := (hb.block _ hwW).trans HA0.out
  obtain ⟨f0, f1, f2, f3⟩ := st_of HA1.out
  have ff := fr_at HA1.out
  clear ht hp hb hn
  go_wp2
  (try simp only [Exit.inBlock, Exit.then])
  refine bodyPost_ret (v := VSt (.slice ap n cp) (.slice none 0 0) (.slice none 0 0) 0) ?_ rfl ⟨ap, n, cp, L, rfl, ?_, HP1.out, ?_⟩
  · rw [results_cell1 rfl]
    go_simp
  · exact (setCells_tab (A := w.heap.size) (S := fun b => w.heap.size < b) (by omega) (cS (.slice ap n cp) (.slice none 0 0) (.slice none 0 0) 0) 0 w1 HT1.out).imp (fun b hb _ => by omega)
  · exact setCells_below (Nat.le_refl _) (cS (.slice ap n cp) (.slice none 0 0) (.slice none 0 0) 0) 0 w1 HB1.out
set_option maxHeartbeats 2000000 in
theorem mnew_any (w : World) : Calls Tryz.prog 11 #[] w fun e w' => ∃ ap n cp L, e = .returned (VSt (.slice ap n cp) (.slice none 0 0) (.slice none 0 0) 0) ∧ TabAt (fun b => w.heap.size ≤ b) w' (.slice ap n cp) L ∧ pl L = It.new ∧ Below w.heap.size w w' := by
  obtain ⟨W, hW⟩ : ∃ W, W = w.alloc BS0 := ⟨_, rfl⟩
  have HB0 : Hid (Below w.heap.size w W) := by show Below w.heap.size w W; rw [hW]; exact (Below.refl _ w).alloc (Nat.le_refl _) _
  have HA0 : Hid (W.heap[w.heap.size]? = some BS0) := by show W.heap[w.heap.size]? = _; rw [hW]; exact heap_alloc_new _ _
  have hwW : w.heap.size < W.heap.size := (Array.getElem?_eq_some_iff.1 HA0.out).1
  go_enter Tryz.func11, Tryz.ntmps11
  go_wp2_with fail
  rw [← hW]
  clear hW
  refine (nnew_any W).mono ?_
  rintro e w1 ⟨ap, n, cp, L, rfl, ht, hp, hb⟩
  have HT1 : Hid (TabAt (fun b => w.heap.size < b) w1 (.slice ap n cp) L) := ht.imp (fun b hb _ => by omega)
  have HP1 : Hid (pl L = It.new) := hp
  have HB1 : Hid (Below w.heap.size w w1) := HB0.out.trans (hb.mono HB0.out.size)
  have HA1 : Hid (w1.heap[w.heap.size]? = some BS0) := (hb.block _ hwW).trans HA0.out
  obtain ⟨f0, f1, f2, f3⟩ := st_of HA1.out
  have ff := fr_at HA1.out
  clear ht hp hb
  go_wp2
  (try simp only [Exit.inBlock, Exit.then])
  refine bodyPost_ret (v := VSt (.slice ap n cp) (.slice none 0 0) (.slice none 0 0) 0) ?_ rfl ⟨ap, n, cp, L, rfl, ?_, HP1.out, ?_⟩
  · rw [results_cell1 rfl]
    go_simp
  · exact (setCells_tab (A := w.heap.size) (S := fun b => w.heap.size < b) (by omega) (cS (.slice ap n cp) (.slice none 0 0) (.slice none 0 0) 0) 0 w1 HT1.out).imp (fun b hb _ => by omega)
  · exact setCells_below (Nat.le_refl _) (cS (.slice ap n cp) (.slice none 0 0) (.slice none 0 0) 0) 0 w1 HB1.out
end Go.Proofs.YtggoccfddnpelaaGreat
namespace Go.Proofs.YtggoccfddnpelaaGreat
open It Go.RowKit
set_option maxRecDepth 100000
namespace Sh
theorem new_dir {nx : Int} (h : 0 ≤ nx ∧ nx ≤ 1099511627776) : Fo.Right [] nx := ⟨h, fun i hi => by simp at hi, by simp [Fo.apart]⟩
theorem new_folds : Sp.folds new := fun x hx => by
  simp [new, fresh] at hx
  subst hx
  exact fun _ => ⟨new_dir (by decide), rfl⟩
theorem new_sp : Sp.isSp new = true := Sp.isSp_iff.2 ⟨by decide, new_folds, by decide, by decide⟩
theorem new_right : Nf.right new [] 0 = true := by
  have h2 : (Os.Op.right 0 [] && (Nf.filesOk new [] && (decide (allBytes new ≤ 8192) && Nf.doneOk new 0))) = true := by decide +kernel
  unfold Nf.right
  rw [new_sp, h2]
  rfl
theorem new_whole : whole new [] [] 0 = true := by
  unfold whole
  rw [new_right]
  rfl
def newB : ByteArray := ⟨#[1, 0, 6, 0, 0, 0, 0, 0, 0, 2, 0, 27, 1, 0, 24, 0, 0, 0, 0, 0, 1, 2, 1, 0, 0, 0, 0, 0, 0, 0, 0, 0, 0, 0, 0, 0, 0, 0, 0]⟩
theorem new_bytes : Ks.Pl.packOut (fS new [] [] 0) = newB := by decide +kernel
theorem new_err : Ks.Pl.packErr 1 (fS new [] [] 0) = 0 := by decide +kernel
theorem new_pk : pkO new [] [] 0 = newB ∧ pkE new [] [] 0 = 0 := by
  unfold pkO pkE
  rw [if_pos new_whole, if_pos new_whole, new_bytes, new_err]
  exact ⟨rfl, rfl⟩
theorem back_is {L : List Ino} {O : List Os.Opn} {Z : List Es.Sea} {dn : Int} (h : pkE L O Z dn = 0) : unpS (pkO L O Z dn) = ⟨L, O, Z, dn⟩ ∧ unpE (pkO L O Z dn) = 0 ∧ (rdS (pkO L O Z dn)).L = L := by
  obtain ⟨-, h1, -⟩ := pk_back h
  have hi : isS ⟨L, O, Z, dn⟩ (pkO L O Z dn) = true := (isS_iff _ _).2 ⟨h, rfl⟩
  obtain ⟨h2, h3⟩ := unp_yes (.inl h1.symm) hi
  exact ⟨h2, h3, by rw [h1]⟩
end Sh
end Go.Proofs.YtggoccfddnpelaaGreat
namespace Go.Proofs.YtggoccfddnpelaaGreat
open Go.ChangeShapes Go.WideShapes Go.ChangeAt Go.RowKit Go.Deep It
set_option maxRecDepth 100000
theorem Sh.new_okN {L : List Rw} (h : pl L = It.new) : Sp.okN L := fun r hr => by
  have : r.i ∈ It.new := by rw [← h]; exact List.mem_map.2 ⟨r, hr, rfl⟩
  simp [It.new, It.fresh] at this
  rw [this]
  intro e he
  cases he
theorem Sh.new_sm : Sh.Sm It.new := Sh.sm_of (by decide)
theorem Sh.new_unp : Sh.unpS Sh.newB = ⟨It.new, [], [], 0⟩ ∧ Sh.unpE Sh.newB = 0 ∧ (Sh.rdS Sh.newB).L = It.new := by
  have := Sh.back_is Sh.new_pk.2
  rwa [Sh.new_pk.1] at this
theorem Sh.new_okS : ∀ y ∈ It.new, okI y ∧ ∀ e ∈ y.ents, e.1.size ≤ maxLen := fun y hy => by
  simp [It.new, It.fresh] at hy
  subst hy
  exact ⟨⟨fun r hr => (by cases hr), by simp, by simp⟩, fun e he => (by cases he)⟩
set_option maxHeartbeats 4000000 in
theorem empty_any (w : World) : Calls Tryz.prog 5 #[] w fun e w' => e = .returned (.bool true) ∧ Below w.heap.size w w' := by
  go_enter Tryz.func5, Tryz.ntmps5
  go_wp2_with fail
  refine (mnew_any w).mono ?_
  rintro e w1 ⟨ap, n, cp, L, rfl, ht, hp, hb1⟩
  have HT1 : Hid (TabAt (fun b => w.heap.size ≤ b) w1 (.slice ap n cp) L) := ht
  have HB1 : Hid (Below w.heap.size w w1) := hb1
  have HP : Hid (pl L = It.new) := hp
  clear ht hp hb1
  go_wp2_with fail
  refine (shpack_any _ _ _ 0 L [] [] _ HT1.out (Sh.new_okN HP.out) At.nil At.nil (fun _ => by rw [HP.out]; exact Sh.new_sm)).mono ?_
  rintro e w2 ⟨rfl, hb2⟩
  rw [HP.out, Sh.new_pk.1, Sh.new_pk.2]
  have HB2 : Hid (Below w.heap.size w w2) := HB1.out.trans (hb2.mono HB1.out.size)
  have HU : Hid (∀ V, Calls Tryz.prog 6 #[.string Sh.newB] V fun e w' => ∃ L vi vo vz, e = .returned (.tuple #[.agg #[vi, vo, vz, .int .i64 0], .int .i64 0]) ∧ US V.heap.size ⟨It.new, [], [], 0⟩ L vi vo vz w' ∧ Below V.heap.size V w') := fun V => by
    have h := shunp_any Sh.newB V (by decide) (by rw [Sh.new_unp.2.2]; exact Sh.new_sm)
    rwa [Sh.new_unp.1, Sh.new_unp.2.1] at h
  have hsz : Sh.newB.size = 39 := rfl
  have hcut : ((Sh.newB.extract 0 15).toList == [1, 0, 6, 0, 0, 0, 0, 0, 0, 2, 0, 27, 1, 0, 24]) = true := by decide +kernel
  generalize Sh.newB = B at HU hsz hcut ⊢
  clear hb2 HT1 HP HB1
  go_wp2_with fail
  refine (HU.out _).mono ?_
  rintro e w3 ⟨L2, vi, vo, vz, rfl, hu, hb3⟩
  obtain ⟨⟨ia, im, ic, rfl⟩, ⟨oa, om, oc, rfl⟩, za, zm, zc, rfl⟩ := hu.slices
  have HB3 : Hid (Below w.heap.size w w3) := HB2.out.trans (hb3.mono HB2.out.size)
  obtain ⟨W4, hW4⟩ : ∃ V, V = w3.alloc (BSt (.slice ia im ic) (.slice oa om oc) (.slice za zm zc) 0) := ⟨_, rfl⟩
  obtain ⟨A4, hA4⟩ : ∃ n, n = w3.heap.size := ⟨_, rfl⟩
  have HS4 : Hid (US w2.heap.size ⟨It.new, [], [], 0⟩ L2 (.slice ia im ic) (.slice oa om oc) (.slice za zm zc) W4) := by show US _ _ _ _ _ _ _; rw [hW4]; exact hu.up ((Below.refl _ _).alloc (Nat.le_refl _) _)
  have HX4 : Hid (W4.heap[A4]? = some (BSt (.slice ia im ic) (.slice oa om oc) (.slice za zm zc) 0)) := by show _ = _; rw [hW4, hA4]; exact heap_alloc_new _ _
  have HB4 : Hid (Below w.heap.size w W4) := by show Below _ _ _; rw [hW4]; exact HB3.out.alloc HB3.out.size _
  have HSG : Hid (∀ V : World, Below W4.heap.size W4 V → V.cell? ⟨A4, 0, none⟩ = some (.slice ia im ic) ∧ V.cell? ⟨A4, 1, none⟩ = some (.slice oa om oc) ∧ V.cell? ⟨A4, 2, none⟩ = some (.slice za zm zc) ∧ V.cell? ⟨A4, 3, none⟩ = some (.int .i64 0)) := fun V h => by
    obtain ⟨a0, a1, a2, a3⟩ := st_of HX4.out
    exact ⟨cell_step a0 h, cell_step a1 h, cell_step a2 h, cell_step a3 h⟩
  have HSC : Hid (∀ (V : World) (ap : Option Addr) (n cp : Nat) (L5 : List Rw), Below W4.heap.size W4 V → TabW V (.slice ap n cp) L5 → pl L5 = It.new → Calls Tryz.prog 8 #[VSt (.slice ia im ic) (.slice oa om oc) (.slice za zm zc) 0, VSt (.slice ap n cp) (.slice none 0 0) (.slice none 0 0) 0] V fun e w' => e = .returned (.bool true) ∧ Below V.heap.size V w') := fun V ap n cp L5 h1 h2 h3 =>
    state_same (T2 := fun _ => True) (T3 := fun _ => True) _ _ _ _ _ _ 0 L2 L5 [] [] V ((HS4.out.tab Sh.new_okS).up h1) h2 (by rw [HS4.out.eq, h3]) (HS4.out.opens.up h1) At.nil (HS4.out.seats.up h1) At.nil
  clear hu hb3 HB2 HU
  go_wp2_with fail
  rw [← hW4, ← hA4]
  clear hW4 hA4
  go_region_held3 (fun V => V.cell? ⟨A4, 0, none⟩ = some (.slice ia im ic) ∧ V.cell? ⟨A4, 1, none⟩ = some (.slice oa om oc) ∧ V.cell? ⟨A4, 2, none⟩ = some (.slice za zm zc) ∧ V.cell? ⟨A4, 3, none⟩ = some (.int .i64 0)) (first | exact HSG.out _ (by (repeat (first | with_reducible assumption | exact Below.refl _ _ | refine bel_drew ?_)))) (first
    | (go_at_call 11; refine (mnew_any _).mono ?_; rintro e w5 ⟨ap5, n5, cp5, L5, rfl, ht5, hp5, hb5⟩; have hb55 : Below W4.heap.size W4 w5 := (by first | exact undrew hb5 | exact hb5); have HT5 : Hid (TabW w5 (.slice ap5 n5 cp5) L5 ∧ pl L5 = It.new) := ⟨ht5.wide, hp5⟩; clear hb5 ht5 hp5)
    | (go_at_call 8; refine (HSC.out _ _ _ _ _ hb55 HT5.out.1 HT5.out.2).mono ?_; rintro e w6 ⟨rfl, hb6⟩; have hb66 : Below W4.heap.size W4 w6 := hb55.trans (hb6.mono hb55.size)))
  all_goals
    have HB6 : Hid (Below w.heap.size w w6) := HB4.out.trans (hb66.mono HB4.out.size)
    go_wp2
    go_ret
    exact ⟨rfl, HB6.out⟩
end Go.Proofs.YtggoccfddnpelaaGreat
namespace Go.Proofs.YtggoccfddnpelaaGreat.Ks.Rs
set_option maxRecDepth 100000
namespace Late
variable {P : Program} {ops : Array Oper} {Q : Exit → Act → World → Prop} {md : Region.Mode} {S : World → Prop} {k : Nat}
/-- Whatever order is picked from here on; and S holds as long as number k has not come up. -/
def any (P : Program) (md : Region.Mode) (ops : Array Oper) (Q : Exit → Act → World → Prop) (S : World → Prop) (k : Nat) : Nat → Array Bool → Act → World → Prop
  | 0, l, a, w => Region.ready md ops l = [] ∧ Q .normal a w
  | n + 1, l, a, w => (Region.ready md ops l = [] → Q .normal a w) ∧
      ∀ i ∈ Region.ready md ops l, wpOp P ops Q i (fun b v => (i ≠ k → S v) ∧ any P md ops Q S k n (l.setIfInBounds i true) b v) a w
/-- Number k waits for number i. -/
def waits (md : Region.Mode) (ops : Array Oper) (k i : Nat) : Bool := ((ops[k]?).map fun o => o.after.any fun e => Region.binds md e && e.on == i).getD false
theorem not_yet {i j : Nat} {l : Array Bool} (hw : waits md ops k i = true) (hi : i ∈ Region.ready md ops l) (hj : j ∈ Region.ready md ops l) : j ≠ k := by
  intro e
  subst e
  unfold waits at hw
  obtain ⟨_, o, ho, hall⟩ := mem_ready.1 hj
  rw [ho] at hw
  simp only [Option.map_some, Option.getD_some, Array.any_eq_true'] at hw
  obtain ⟨d, hd, hb⟩ := hw
  simp only [Bool.and_eq_true, beq_iff_eq] at hb
  have h1 := hall d hd hb.1
  have h0 := (mem_ready.1 hi).1
  rw [hb.2] at h1
  have e1 : l.getD i true = l.getD i false := by
    by_cases hlt : i < l.size
    · simp [hlt]
    · simp [Array.getElem?_eq_none (Nat.le_of_not_lt hlt)] at h1
  rw [e1, h1] at h0
  cases h0
theorem before {i : Nat} {oi : Oper} {v : Value} (hi : ops[i]? = some oi) (hsel : Region.noSelect ops = true) (hw : waits md ops k i = true)
    (hQ : ∀ c a w, Q (.panic c) (a.put oi.dst v) w → Q (.panic c) a w) :
    ∀ (n : Nat) (l : Array Bool) (a : Act) (w : World),
      (∀ j oj, ops[j]? = some oj → j ≠ i → l.getD j true = false → (∀ e ∈ oj.after, Region.binds md e = true → e.on ≠ i) → oi.apart ops oj = true) →
      i ∈ Region.ready md ops l → YieldsIf P ops S oi v a → S w → any P md ops Q S k n (l.setIfInBounds i true) (a.put oi.dst v) w → any P md ops Q S k (n + 1) l a w := by
  intro n
  induction n with
  | zero =>
    intro l a w _ hr hy hS hH
    refine ⟨fun h => absurd hr (by rw [h]; simp), fun j hj => ?_⟩
    by_cases e : j = i
    · subst e; exact hy.wpOp hi hS ⟨fun _ => hS, hH⟩
    · exact absurd (ready_mono hj e) (by rw [hH.1]; simp)
  | succ n ih =>
    intro l a w hfr hr hy hS hH
    refine ⟨fun h => absurd hr (by rw [h]; simp), fun j hj => ?_⟩
    by_cases e : j = i
    · subst e; exact hy.wpOp hi hS ⟨fun _ => hS, hH⟩
    · have hjk := not_yet hw hr hj
      obtain ⟨hun, oj, hoj, hall⟩ := mem_ready.1 hj
      have hno : ∀ d ∈ oj.after, Region.binds md d = true → d.on ≠ i := by
        intro d hd hb hdi
        have h1 := hall d hd hb
        have h0 := (mem_ready.1 hr).1
        rw [hdi] at h1
        by_cases hlt : i < l.size
        · simp [hlt] at h0 h1
          rw [h0] at h1
          cases h1
        · simp [Array.getElem?_eq_none (Nat.le_of_not_lt hlt)] at h1
      refine wpOp_mono (fun b u hb => ⟨fun _ => hb.2.1 hjk, ?_⟩) (wpOp_putIf hoj (hfr j oj hoj e hun hno) (fun cs b => Region.noSelect_spec hsel i oi cs b hi) (fun cs b => Region.noSelect_spec hsel j oj cs b hoj) hQ hy (hH.2 j (ready_mono hj e)))
      refine ih (l.setIfInBounds j true) b u (fun q oq hq hqi hqu hqn => hfr q oq hq hqi ?_ hqn) (ready_mono hr (Ne.symm e)) hb.1 (hb.2.1 hjk) ?_
      · by_cases hjq : j = q
        · subst hjq; exact hun
        · rw [getD_set_ne true hjq] at hqu; exact hqu
      · rw [Array.setIfInBounds_comm _ _ e]
        exact hb.2.2
/-- The post, of what does not panic. -/
def fine (Q : Exit → Act → World → Prop) : Exit → Act → World → Prop := fun e a w => e = .normal ∧ Q .normal a w
/-- Take number i first. -/
theorem take (i : Nat) {oi : Oper} (v : Value) {n : Nat} {l : Array Bool} {a : Act} {w : World} (hi : ops[i]? = some oi) (hsel : Region.noSelect ops = true) (hw : waits md ops k i = true)
    (hf : Region.free md ops l i = true) (hr : (Region.ready md ops l).contains i = true)
    (hg : oi.guard = none) (hy : ∀ w, S w → (execOp a.eval oi).run P w = .ok (.value v) w) (hS : S w) (h : any P md ops (fine Q) S k n (l.setIfInBounds i true) (a.put oi.dst v) w) : any P md ops (fine Q) S k (n + 1) l a w :=
  before hi hsel hw (fun _ _ _ h => by cases h.1) n l a w (Region.free_spec hi hf) (by simpa using hr) (.inl ⟨by simp [Region.wanted, hg], hy⟩) hS h
/-- One alone may come up. -/
theorem one (i : Nat) {oi : Oper} {n : Nat} {l : Array Bool} {a : Act} {w : World} (hi : ops[i]? = some oi) (hr : Region.ready md ops l = [i]) (hg : oi.guard = none)
    (h : oi.wp P a w (fun b v => (i ≠ k → S v) ∧ any P md ops (fine Q) S k n (l.setIfInBounds i true) b v) (fine Q)) : any P md ops (fine Q) S k (n + 1) l a w := by
  refine ⟨fun h0 => absurd (hr.symm.trans h0) (by simp), fun j hj => ?_⟩
  rw [hr] at hj
  obtain rfl : j = i := by simpa using hj
  unfold wpOp
  rw [hi]
  simp only [show Region.wanted oi (yielded ops a.tmps) = true by simp [Region.wanted, hg], if_true]
  exact .inl h
end Late
end Go.Proofs.YtggoccfddnpelaaGreat.Ks.Rs
namespace Go.Proofs.YtggoccfddnpelaaGreat
open Go.ChangeShapes Go.WideShapes Go.ChangeAt Go.RowKit Go.Deep It
set_option maxRecDepth 100000
theorem Sh.unp_okS (b : ByteArray) : ∀ y ∈ (Sh.unpS b).L, okI y ∧ ∀ e ∈ y.ents, e.1.size ≤ maxLen := fun y hy => by
  unfold Sh.unpS at hy
  split at hy
  · exact Sh.rdS_ok b y hy
  · cases hy
end Go.Proofs.YtggoccfddnpelaaGreat
