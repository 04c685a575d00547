/-
  folder.place, folder.Find, slices.ContainsFunc, folder.refuseAdd: what they answer.
-/
import Derived.Test.YtacghcoikekfeaaGreatFNamed
namespace Go.Proofs.YtacghcoikekfeaaGreat
open Go.ChangeShapes Go.WideShapes Go.ChangeAt Go.RowKit Go.Deep
set_option maxRecDepth 100000
namespace Fo
theorem ask_or (l : List Ent) (next : Int) (s : ByteArray) : (ask l next s = 0 ∧ Right l next ∧ Nm.ok s) ∨ (ask l next s = 4 ∧ ¬ Right l next) ∨ (ask l next s = 409 ∧ Right l next ∧ ¬ Nm.ok s) := by
  rcases err_or l next with ⟨h, hr⟩ | ⟨h, hr⟩
  · rcases Nm.err_or s with ⟨k, ho⟩ | ⟨k, ho⟩
    · exact .inl ⟨(ask_right h).trans k, hr, ho⟩
    · exact .inr (.inr ⟨(ask_right h).trans k, hr, ho⟩)
  · exact .inr (.inl ⟨ask_wrong h, hr⟩)
noncomputable def findErr (l : List Ent) (next : Int) (s : ByteArray) : Int := if ask l next s = 0 then (if at' (called s) l = -1 then 402 else 0) else ask l next s
noncomputable def plc (l : List Ent) (next : Int) (s : ByteArray) : Int := if findErr l next s = 0 then at' (called s) l else 0
theorem findErr_ask {l : List Ent} {next : Int} {s : ByteArray} {e : Int} (h : ask l next s = e) (he : e ≠ 0) : findErr l next s = e ∧ plc l next s = 0 := by
  have : findErr l next s = e := by unfold findErr; rw [if_neg (by rw [h]; exact he), h]
  exact ⟨this, by unfold plc; rw [if_neg (by rw [this]; exact he)]⟩
theorem findErr_miss {l : List Ent} {next : Int} {s : ByteArray} (h : ask l next s = 0) (ha : at' (called s) l = -1) : findErr l next s = 402 ∧ plc l next s = 0 := by
  have : findErr l next s = 402 := by unfold findErr; rw [if_pos h, if_pos ha]
  exact ⟨this, by unfold plc; rw [if_neg (by rw [this]; decide)]⟩
theorem findErr_hit {l : List Ent} {next : Int} {s : ByteArray} {k : Nat} (h : ask l next s = 0) (ha : at' (called s) l = k) : findErr l next s = 0 ∧ plc l next s = k := by
  have : findErr l next s = 0 := by unfold findErr; rw [if_pos h, if_neg (by rw [ha]; omega)]
  exact ⟨this, by unfold plc; rw [if_pos this, ha]⟩
end Fo
theorem cell_next {w w' : World} {b j : Nat} {v : Value} (h : w.cell? ⟨b, j, none⟩ = some v) (hb : Below w.heap.size w w') (hl : b < w.heap.size) : w'.cell? ⟨b, j, none⟩ = some v := (hb.cell (p := ⟨b, j, none⟩) hl).trans h
theorem cell_lt {w : World} {b j : Nat} {v : Value} (h : w.cell? ⟨b, j, none⟩ = some v) : b < w.heap.size := by
  unfold World.cell? at h
  by_cases hb : b < w.heap.size
  · exact hb
  · rw [Array.getElem?_eq_none (by simpa using hb)] at h
    simp at h
theorem cell_step {w w' : World} {b j : Nat} {v : Value} (h : w.cell? ⟨b, j, none⟩ = some v) (hb : Below w.heap.size w w') : w'.cell? ⟨b, j, none⟩ = some v := cell_next h hb (cell_lt h)
theorem box_cells (w : World) (v : Value) (next : Int) : (w.alloc (BD v next)).cell? ⟨w.heap.size, 0, none⟩ = some v ∧ (w.alloc (BD v next)).cell? ⟨w.heap.size, 1, none⟩ = some (.int .i64 next) := by
  have hh := heap_alloc_new w (BD v next)
  constructor <;> simp only [World.cell?, hh] <;> rfl
theorem undrew {w w' : World} (h : Below w.drew.heap.size w.drew w') : Below w.heap.size w w' := ⟨h.os, h.tape, h.output, h.size, h.block⟩
set_option maxHeartbeats 1000000 in
theorem place_any (v : Value) (l : List Ent) (next : Int) (s : ByteArray) (w : World) (hv : AtW EE w v l) (hs : ∀ x ∈ l, x.1.size ≤ maxLen) (hn : s.size ≤ maxLen) :
    Calls Tryz.prog 116 #[VD v next, .string s] w fun e w' => e = .returned (.tuple #[.int .i64 (Fo.plc l next s), .int .i64 (Fo.findErr l next s)]) ∧ Below w.heap.size w w' := by
  have HB0 : Hid (Below w.heap.size w (w.alloc (BD v next))) := (Below.refl _ w).alloc (Nat.le_refl _) _
  have HV : Hid (AtW EE (w.alloc (BD v next)) v l) := hv.up HB0.out
  have HS : Hid (∀ x ∈ l, x.1.size ≤ maxLen) := hs
  have HNN : Hid (s.size ≤ maxLen) := hn
  obtain ⟨HD0, HD1⟩ := box_cells w v next
  clear hv hs hn
  rcases Fo.ask_or l next s with ⟨ha, -, -⟩ | ⟨ha, -⟩ | ⟨ha, -, -⟩
  · have HA : Hid (Fo.ask l next s = 0) := ha
    rcases Fo.at_or (Fo.called s) l with ⟨ht, -⟩ | ⟨k, x, ht, hx, -, -⟩
    · have HT : Hid (Fo.at' (Fo.called s) l = -1) := ht
      obtain ⟨HE, HP⟩ : Hid (Fo.findErr l next s = 402) ∧ Hid (Fo.plc l next s = 0) := Fo.findErr_miss ha ht
      rw [HE.out, HP.out]
      clear ha ht
      go_enter Tryz.func116, Tryz.ntmps116
      go_wp2_with fail
      refine (frefuse_any v l next s _ HV.out HS.out HNN.out).mono ?_
      rintro e w1 ⟨rfl, hb⟩
      rw [HA.out]
      have hb1 := HB0.out.trans (hb.mono (by simp))
      have HB1 : Hid (Below w.heap.size w w1) := hb1
      have HV1 : Hid (AtW EE w1 v l) := HV.out.up hb
      have hd0 := cell_next HD0 hb (by simp)
      have HSS : Hid (w1.cell? ⟨w.heap.size, 0, none⟩ = some v) := hd0
      clear hb hb1 hd0 HD0 HD1
      go_wp2_with fail
      go_region_held3 (fun w' => w'.cell? ⟨w.heap.size, 0, none⟩ = some v) (first | exact HSS.out | exact cell_step (by assumption) (by assumption)) (first
        | (go_at_call 135; refine (named_any s _).mono ?_; rintro e w2 ⟨bx, rfl, hbx, hcx, hb2⟩)
        | (go_at_call 134; refine (index_named v l s bx _ (HV1.out.up (undrew hb2)) hbx hcx).mono ?_; rintro e w3 ⟨rfl, hb3⟩; rw [HT.out]))
      have HB3 : Hid (Below w.heap.size w w3) := by
        have h2 := HB1.out.trans ((undrew hb2).mono HB1.out.size)
        exact h2.trans (hb3.mono h2.size)
      clear hb2 hb3 hbx hcx
      go_wp2
      go_ret2
      exact ⟨rfl, HB3.out⟩
    · have HT : Hid (Fo.at' (Fo.called s) l = k) := ht
      obtain ⟨HE, HP⟩ : Hid (Fo.findErr l next s = 0) ∧ Hid (Fo.plc l next s = k) := Fo.findErr_hit ha ht
      rw [HE.out, HP.out]
      clear ha ht
      go_enter Tryz.func116, Tryz.ntmps116
      go_wp2_with fail
      refine (frefuse_any v l next s _ HV.out HS.out HNN.out).mono ?_
      rintro e w1 ⟨rfl, hb⟩
      rw [HA.out]
      have hb1 := HB0.out.trans (hb.mono (by simp))
      have HB1 : Hid (Below w.heap.size w w1) := hb1
      have HV1 : Hid (AtW EE w1 v l) := HV.out.up hb
      have hd0 := cell_next HD0 hb (by simp)
      have HSS : Hid (w1.cell? ⟨w.heap.size, 0, none⟩ = some v) := hd0
      clear hb hb1 hd0 HD0 HD1
      go_wp2_with fail
      go_region_held3 (fun w' => w'.cell? ⟨w.heap.size, 0, none⟩ = some v) (first | exact HSS.out | exact cell_step (by assumption) (by assumption)) (first
        | (go_at_call 135; refine (named_any s _).mono ?_; rintro e w2 ⟨bx, rfl, hbx, hcx, hb2⟩)
        | (go_at_call 134; refine (index_named v l s bx _ (HV1.out.up (undrew hb2)) hbx hcx).mono ?_; rintro e w3 ⟨rfl, hb3⟩; rw [HT.out]))
      have HB3 : Hid (Below w.heap.size w w3) := by
        have h2 := HB1.out.trans ((undrew hb2).mono HB1.out.size)
        exact h2.trans (hb3.mono h2.size)
      clear hb2 hb3 hbx hcx
      go_wp2
      go_ret2
      exact ⟨rfl, HB3.out⟩
  · have HA : Hid (Fo.ask l next s = 4) := ha
    obtain ⟨HE, HP⟩ : Hid (Fo.findErr l next s = 4) ∧ Hid (Fo.plc l next s = 0) := Fo.findErr_ask ha (by decide)
    rw [HE.out, HP.out]
    clear ha
    go_enter Tryz.func116, Tryz.ntmps116
    go_wp2_with fail
    refine (frefuse_any v l next s _ HV.out HS.out HNN.out).mono ?_
    rintro e w1 ⟨rfl, hb⟩
    rw [HA.out]
    go_wp2
    go_ret2
    exact ⟨rfl, HB0.out.trans (hb.mono (by simp))⟩
  · have HA : Hid (Fo.ask l next s = 409) := ha
    obtain ⟨HE, HP⟩ : Hid (Fo.findErr l next s = 409) ∧ Hid (Fo.plc l next s = 0) := Fo.findErr_ask ha (by decide)
    rw [HE.out, HP.out]
    clear ha
    go_enter Tryz.func116, Tryz.ntmps116
    go_wp2_with fail
    refine (frefuse_any v l next s _ HV.out HS.out HNN.out).mono ?_
    rintro e w1 ⟨rfl, hb⟩
    rw [HA.out]
    go_wp2
    go_ret2
    exact ⟨rfl, HB0.out.trans (hb.mono (by simp))⟩
end Go.Proofs.YtacghcoikekfeaaGreat
