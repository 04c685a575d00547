/-
  slices.ContainsFunc, folder.refuseAdd: what they answer.
-/
import Derived.Test.YtacghcoikekfeaaGreatFConcat
namespace Go.Proofs.YtacghcoikekfeaaGreat
open Go.ChangeShapes Go.WideShapes Go.ChangeAt Go.RowKit Go.Deep
set_option maxRecDepth 100000
namespace Fo
noncomputable def addErr (l : List Ent) (next : Int) (s : ByteArray) (no gen : Int) : Int :=
  if ask l next s = 0 then (if Ho no gen then (if at' (called s) l = -1 then (if next = 1099511627776 then 407 else 0) else 403) else 1) else ask l next s
theorem add_ask {l : List Ent} {next : Int} {s : ByteArray} {no gen e : Int} (h : ask l next s = e) (he : e ≠ 0) : addErr l next s no gen = e := by unfold addErr; rw [if_neg (by rw [h]; exact he), h]
theorem add_ho {l : List Ent} {next : Int} {s : ByteArray} {no gen : Int} (h : ask l next s = 0) (ho : ¬ Ho no gen) : addErr l next s no gen = 1 := by unfold addErr; rw [if_pos h, if_neg ho]
theorem add_has {l : List Ent} {next : Int} {s : ByteArray} {no gen : Int} {k : Nat} (h : ask l next s = 0) (ho : Ho no gen) (ha : at' (called s) l = k) : addErr l next s no gen = 403 := by unfold addErr; rw [if_pos h, if_pos ho, if_neg (by rw [ha]; omega)]
theorem add_full {l : List Ent} {next : Int} {s : ByteArray} {no gen : Int} (h : ask l next s = 0) (ho : Ho no gen) (ha : at' (called s) l = -1) (hn : next = 1099511627776) : addErr l next s no gen = 407 := by unfold addErr; rw [if_pos h, if_pos ho, if_pos ha, if_pos hn]
theorem add_ok {l : List Ent} {next : Int} {s : ByteArray} {no gen : Int} (h : ask l next s = 0) (ho : Ho no gen) (ha : at' (called s) l = -1) (hn : ¬ next = 1099511627776) : addErr l next s no gen = 0 := by unfold addErr; rw [if_pos h, if_pos ho, if_pos ha, if_neg hn]
end Fo
theorem contains_yes (v : Value) (l : List Ent) (s : ByteArray) (b k : Nat) (w : World) (hv : AtW EE w v l) (hb : b < w.heap.size) (hc : w.cell? ⟨b, 0, none⟩ = some (.string s)) (hk : Fo.at' (Fo.called s) l = k) :
    Calls Tryz.prog 136 #[v, VF 140 b] w fun e w' => e = .returned (.bool true) ∧ Below w.heap.size w w' := by
  have HV : Hid (AtW EE w v l) := hv
  have HC : Hid (w.cell? ⟨b, 0, none⟩ = some (.string s)) := hc
  have HK : Hid (Fo.at' (Fo.called s) l = k) := hk
  clear hv hc hk
  go_enter Tryz.func136, Tryz.ntmps136
  go_wp2_with fail
  refine (index_named v l s b _ HV.out hb HC.out).mono ?_
  rintro e w1 ⟨rfl, hb1⟩
  rw [HK.out]
  go_wp2
  go_ret
  exact ⟨rfl, hb1⟩
theorem contains_no (v : Value) (l : List Ent) (s : ByteArray) (b : Nat) (w : World) (hv : AtW EE w v l) (hb : b < w.heap.size) (hc : w.cell? ⟨b, 0, none⟩ = some (.string s)) (hk : Fo.at' (Fo.called s) l = -1) :
    Calls Tryz.prog 136 #[v, VF 140 b] w fun e w' => e = .returned (.bool false) ∧ Below w.heap.size w w' := by
  have HV : Hid (AtW EE w v l) := hv
  have HC : Hid (w.cell? ⟨b, 0, none⟩ = some (.string s)) := hc
  have HK : Hid (Fo.at' (Fo.called s) l = -1) := hk
  clear hv hc hk
  go_enter Tryz.func136, Tryz.ntmps136
  go_wp2_with fail
  refine (index_named v l s b _ HV.out hb HC.out).mono ?_
  rintro e w1 ⟨rfl, hb1⟩
  rw [HK.out]
  go_wp2
  go_ret
  exact ⟨rfl, hb1⟩
theorem two_boxes (w : World) (v : Value) (next no gen : Int) : ((w.alloc (BD v next)).alloc (BHf no gen)).cell? ⟨w.heap.size, 0, none⟩ = some v ∧ ((w.alloc (BD v next)).alloc (BHf no gen)).cell? ⟨w.heap.size, 1, none⟩ = some (.int .i64 next) ∧
    ((w.alloc (BD v next)).alloc (BHf no gen)).cell? ⟨w.heap.size + 1, 0, none⟩ = some (.int .i64 no) ∧ ((w.alloc (BD v next)).alloc (BHf no gen)).cell? ⟨w.heap.size + 1, 1, none⟩ = some (.int .i64 gen) := by
  have hb := box_cells w v next
  have hh := heap_alloc_new (w.alloc (BD v next)) (BHf no gen)
  rw [show (w.alloc (BD v next)).heap.size = w.heap.size + 1 by simp] at hh
  refine ⟨(cell_older (by simp) _ _).trans hb.1, (cell_older (by simp) _ _).trans hb.2, ?_, ?_⟩ <;> simp only [World.cell?, hh] <;> rfl
set_option maxHeartbeats 2000000 in
theorem refuseAdd_any (v : Value) (l : List Ent) (next : Int) (s : ByteArray) (no gen : Int) (w : World) (hv : AtW EE w v l) (hs : ∀ x ∈ l, x.1.size ≤ maxLen) (hn : s.size ≤ maxLen) :
    Calls Tryz.prog 120 #[VD v next, .string s, VHf no gen] w fun e w' => e = .returned (.int .i64 (Fo.addErr l next s no gen)) ∧ Below w.heap.size w w' := by
  obtain ⟨W, hW⟩ : ∃ W, W = (w.alloc (BD v next)).alloc (BHf no gen) := ⟨_, rfl⟩
  have HB0 : Hid (Below w.heap.size w W) := by show Below w.heap.size w W; rw [hW]; exact ((Below.refl _ w).alloc (Nat.le_refl _) _).alloc (by simp) _
  have hws : w.heap.size + 1 < W.heap.size := by rw [hW]; simp
  obtain ⟨a0, a1, a2, a3⟩ := two_boxes w v next no gen
  rw [← hW] at a0 a1 a2 a3
  have HV : Hid (AtW EE W v l) := hv.up HB0.out
  have HS : Hid (∀ x ∈ l, x.1.size ≤ maxLen) := hs
  have HNN : Hid (s.size ≤ maxLen) := hn
  clear hv hs hn
  rcases Fo.ask_or l next s with ⟨ha, -, -⟩ | ⟨ha, -⟩ | ⟨ha, -, -⟩
  · have HA : Hid (Fo.ask l next s = 0) := ha
    by_cases ho : Ho no gen
    · have HD : Hid (decide (Ho no gen) = true) := decide_eq_true ho
      rcases Fo.at_or (Fo.called s) l with ⟨ht, -⟩ | ⟨k, x, ht, -, -, -⟩
      · have HT : Hid (Fo.at' (Fo.called s) l = -1) := ht
        by_cases hx : next = 1099511627776
        · have HE : Hid (Fo.addErr l next s no gen = 407) := Fo.add_full ha ho ht hx
          have hx' : (next == 1099511627776) = true := by simp [hx]
          clear ha ho ht hx
          go_enter Tryz.func120, Tryz.ntmps120
          go_wp2_with fail
          rw [← hW]
          refine (frefuse_any v l next s _ HV.out HS.out HNN.out).mono ?_
          rintro e w1 ⟨rfl, hb⟩
          rw [HA.out]
          have HB1 : Hid (Below w.heap.size w w1) := HB0.out.trans (hb.mono HB0.out.size)
          have e0 := cell_next a0 hb (by omega)
          have e1 := cell_next a1 hb (by omega)
          have e2 := cell_next a2 hb (by omega)
          have e3 := cell_next a3 hb (by omega)
          have HV1 : Hid (AtW EE w1 v l) := HV.out.up hb
          have hs1 := hb.size
          clear hb hW a0 a1 a2 a3
          go_wp2_with fail
          refine (rightTo_any no gen _).mono ?_
          rintro e w2 ⟨rfl, rfl⟩
          rw [HD.out]
          have HB2 : Hid (Below w.heap.size w (w1.alloc (BHf no gen))) := HB1.out.alloc HB1.out.size _
          have HV2 : Hid (AtW EE (w1.alloc (BHf no gen)) v l) := HV1.out.up ((Below.refl _ _).alloc (Nat.le_refl _) _)
          have f0 := (cell_older (by omega) (BHf no gen) 0).trans e0
          have f1 := (cell_older (by omega) (BHf no gen) 1).trans e1
          have HSS : Hid ((w1.alloc (BHf no gen)).cell? ⟨w.heap.size, 0, none⟩ = some v) := f0
          generalize w1.alloc (BHf no gen) = w2 at *
          clear e0 e1 e2 e3
          go_wp2_with fail
          go_region_held3 (fun w' => w'.cell? ⟨w.heap.size, 0, none⟩ = some v) (first | exact HSS.out | exact cell_step (by assumption) (by assumption)) (first
            | (go_at_call 135; refine (named_any s _).mono ?_; rintro e w3 ⟨bx, rfl, hbx, hcx, hb3⟩)
            | (go_at_call 136; refine (contains_no _ l s bx _ (HV2.out.up (undrew hb3)) hbx hcx HT.out).mono ?_; rintro e w4 ⟨rfl, hb4⟩))
          have HB4 : Hid (Below w.heap.size w w4) := by
            have h2 := HB2.out.trans ((undrew hb3).mono HB2.out.size)
            exact h2.trans (hb4.mono h2.size)
          have g1 := cell_step (cell_step f1 (undrew hb3)) hb4
          clear hb3 hb4 hbx hcx f0 f1
          go_wp2
          go_ret
          rw [HE.out]
          exact ⟨rfl, HB4.out⟩
        · have HE : Hid (Fo.addErr l next s no gen = 0) := Fo.add_ok ha ho ht hx
          have hx' : (next == 1099511627776) = false := by simp [hx]
          clear ha ho ht hx
          go_enter Tryz.func120, Tryz.ntmps120
          go_wp2_with fail
          rw [← hW]
          refine (frefuse_any v l next s _ HV.out HS.out HNN.out).mono ?_
          rintro e w1 ⟨rfl, hb⟩
          rw [HA.out]
          have HB1 : Hid (Below w.heap.size w w1) := HB0.out.trans (hb.mono HB0.out.size)
          have e0 := cell_next a0 hb (by omega)
          have e1 := cell_next a1 hb (by omega)
          have e2 := cell_next a2 hb (by omega)
          have e3 := cell_next a3 hb (by omega)
          have HV1 : Hid (AtW EE w1 v l) := HV.out.up hb
          have hs1 := hb.size
          clear hb hW a0 a1 a2 a3
          go_wp2_with fail
          refine (rightTo_any no gen _).mono ?_
          rintro e w2 ⟨rfl, rfl⟩
          rw [HD.out]
          have HB2 : Hid (Below w.heap.size w (w1.alloc (BHf no gen))) := HB1.out.alloc HB1.out.size _
          have HV2 : Hid (AtW EE (w1.alloc (BHf no gen)) v l) := HV1.out.up ((Below.refl _ _).alloc (Nat.le_refl _) _)
          have f0 := (cell_older (by omega) (BHf no gen) 0).trans e0
          have f1 := (cell_older (by omega) (BHf no gen) 1).trans e1
          have HSS : Hid ((w1.alloc (BHf no gen)).cell? ⟨w.heap.size, 0, none⟩ = some v) := f0
          generalize w1.alloc (BHf no gen) = w2 at *
          clear e0 e1 e2 e3
          go_wp2_with fail
          go_region_held3 (fun w' => w'.cell? ⟨w.heap.size, 0, none⟩ = some v) (first | exact HSS.out | exact cell_step (by assumption) (by assumption)) (first
            | (go_at_call 135; refine (named_any s _).mono ?_; rintro e w3 ⟨bx, rfl, hbx, hcx, hb3⟩)
            | (go_at_call 136; refine (contains_no _ l s bx _ (HV2.out.up (undrew hb3)) hbx hcx HT.out).mono ?_; rintro e w4 ⟨rfl, hb4⟩))
          have HB4 : Hid (Below w.heap.size w w4) := by
            have h2 := HB2.out.trans ((undrew hb3).mono HB2.out.size)
            exact h2.trans (hb4.mono h2.size)
          have g1 := cell_step (cell_step f1 (undrew hb3)) hb4
          clear hb3 hb4 hbx hcx f0 f1
          go_wp2
          go_ret
          rw [HE.out]
          exact ⟨rfl, HB4.out⟩
      · have HT : Hid (Fo.at' (Fo.called s) l = k) := ht
        have HE : Hid (Fo.addErr l next s no gen = 403) := Fo.add_has ha ho ht
        clear ha ho ht
        go_enter Tryz.func120, Tryz.ntmps120
        go_wp2_with fail
        rw [← hW]
        refine (frefuse_any v l next s _ HV.out HS.out HNN.out).mono ?_
        rintro e w1 ⟨rfl, hb⟩
        rw [HA.out]
        have HB1 : Hid (Below w.heap.size w w1) := HB0.out.trans (hb.mono HB0.out.size)
        have e0 := cell_next a0 hb (by omega)
        have e1 := cell_next a1 hb (by omega)
        have e2 := cell_next a2 hb (by omega)
        have e3 := cell_next a3 hb (by omega)
        have HV1 : Hid (AtW EE w1 v l) := HV.out.up hb
        have hs1 := hb.size
        clear hb hW a0 a1 a2 a3
        go_wp2_with fail
        refine (rightTo_any no gen _).mono ?_
        rintro e w2 ⟨rfl, rfl⟩
        rw [HD.out]
        have HB2 : Hid (Below w.heap.size w (w1.alloc (BHf no gen))) := HB1.out.alloc HB1.out.size _
        have HV2 : Hid (AtW EE (w1.alloc (BHf no gen)) v l) := HV1.out.up ((Below.refl _ _).alloc (Nat.le_refl _) _)
        have f0 := (cell_older (by omega) (BHf no gen) 0).trans e0
        have f1 := (cell_older (by omega) (BHf no gen) 1).trans e1
        have HSS : Hid ((w1.alloc (BHf no gen)).cell? ⟨w.heap.size, 0, none⟩ = some v) := f0
        generalize w1.alloc (BHf no gen) = w2 at *
        clear e0 e1 e2 e3
        go_wp2_with fail
        go_region_held3 (fun w' => w'.cell? ⟨w.heap.size, 0, none⟩ = some v) (first | exact HSS.out | exact cell_step (by assumption) (by assumption)) (first
          | (go_at_call 135; refine (named_any s _).mono ?_; rintro e w3 ⟨bx, rfl, hbx, hcx, hb3⟩)
          | (go_at_call 136; refine (contains_yes _ l s bx k _ (HV2.out.up (undrew hb3)) hbx hcx HT.out).mono ?_; rintro e w4 ⟨rfl, hb4⟩))
        have HB4 : Hid (Below w.heap.size w w4) := by
          have h2 := HB2.out.trans ((undrew hb3).mono HB2.out.size)
          exact h2.trans (hb4.mono h2.size)
        have g1 := cell_step (cell_step f1 (undrew hb3)) hb4
        clear hb3 hb4 hbx hcx f0 f1
        go_wp2
        go_ret
        rw [HE.out]
        exact ⟨rfl, HB4.out⟩
    · have HD : Hid (decide (Ho no gen) = false) := decide_eq_false ho
      have HE : Hid (Fo.addErr l next s no gen = 1) := Fo.add_ho ha ho
      clear ha ho
      go_enter Tryz.func120, Tryz.ntmps120
      go_wp2_with fail
      rw [← hW]
      refine (frefuse_any v l next s _ HV.out HS.out HNN.out).mono ?_
      rintro e w1 ⟨rfl, hb⟩
      rw [HA.out]
      have HB1 : Hid (Below w.heap.size w w1) := HB0.out.trans (hb.mono HB0.out.size)
      have e0 := cell_next a0 hb (by omega)
      have e1 := cell_next a1 hb (by omega)
      have e2 := cell_next a2 hb (by omega)
      have e3 := cell_next a3 hb (by omega)
      have HV1 : Hid (AtW EE w1 v l) := HV.out.up hb
      have hs1 := hb.size
      clear hb hW a0 a1 a2 a3
      go_wp2_with fail
      refine (rightTo_any no gen _).mono ?_
      rintro e w2 ⟨rfl, rfl⟩
      rw [HD.out]
      go_wp2
      go_ret
      rw [HE.out]
      exact ⟨rfl, HB1.out.alloc HB1.out.size _⟩
  · have HA : Hid (Fo.ask l next s = 4) := ha
    have HE : Hid (Fo.addErr l next s no gen = 4) := Fo.add_ask ha (by decide)
    rw [HE.out]
    clear ha
    go_enter Tryz.func120, Tryz.ntmps120
    go_wp2_with fail
    rw [← hW]
    refine (frefuse_any v l next s _ HV.out HS.out HNN.out).mono ?_
    rintro e w1 ⟨rfl, hb⟩
    rw [HA.out]
    have HB1 : Hid (Below w.heap.size w w1) := HB0.out.trans (hb.mono HB0.out.size)
    go_wp2
    go_ret
    exact ⟨rfl, HB1.out⟩
  · have HA : Hid (Fo.ask l next s = 409) := ha
    have HE : Hid (Fo.addErr l next s no gen = 409) := Fo.add_ask ha (by decide)
    rw [HE.out]
    clear ha
    go_enter Tryz.func120, Tryz.ntmps120
    go_wp2_with fail
    rw [← hW]
    refine (frefuse_any v l next s _ HV.out HS.out HNN.out).mono ?_
    rintro e w1 ⟨rfl, hb⟩
    rw [HA.out]
    have HB1 : Hid (Below w.heap.size w w1) := HB0.out.trans (hb.mono HB0.out.size)
    go_wp2
    go_ret
    exact ⟨rfl, HB1.out⟩
end Go.Proofs.YtacghcoikekfeaaGreat
