/-
  For any runs sextonlaw08.BlobChecks returns true, whatever the memory: which runs are right, how many bytes they have, and where they end. No condition.
-/
import Derived.Test.YtkkaendfcfkbbaaRight
import Derived.Test.YtkkaendfcfkbbaaEnd
import Derived.Test.YtkkaendfcfkbbaaKit
namespace Go.Proofs.Ytkkaendfcfkbbaa
open Go.ChangeShapes Go.WideShapes Go.ChangeAt Go.RowKit Go.Deep
open Go.ChangeMaps (open_string)

namespace Bl
def sumw (l : List R) : Int := l.foldl (fun y r => wrap64 (y + (r.2.size : Int))) 0
def endw (l : List R) : Int := l.foldl (fun _ r => wrap64 (r.1 + (r.2.size : Int))) 0
theorem takeR_succ (l : List R) {k : Nat} (hk : k < l.length) {x : R} (hx : l.getD k (0, .empty) = x) : l.take (k + 1) = l.take k ++ [x] := by
  rw [List.take_add_one, List.getElem?_eq_getElem hk]
  simp [List.getD, List.getElem?_eq_getElem hk] at hx
  simp [hx]
theorem sumw_succ {l : List R} {k : Nat} (hk : k < l.length) {x : R} (hx : l.getD k (0, .empty) = x) : sumw (l.take (k + 1)) = wrap64 (sumw (l.take k) + (x.2.size : Int)) := by
  rw [takeR_succ l hk hx]; unfold sumw; rw [List.foldl_append]; rfl
theorem endw_succ {l : List R} {k : Nat} (hk : k < l.length) {x : R} (hx : l.getD k (0, .empty) = x) : endw (l.take (k + 1)) = wrap64 (x.1 + (x.2.size : Int)) := by
  rw [takeR_succ l hk hx]; unfold endw; rw [List.foldl_append]; rfl
theorem wrap_in {x : Int} (h0 : 0 ≤ x) (h1 : x ≤ 1048576) : wrap64 x = x := by
  unfold wrap64
  omega
theorem endw_right {l : List R} (hr : right (-1) l) : endw l = endOf l := by
  unfold endOf
  rw [if_pos hr]
  rcases snoc_cases l with rfl | ⟨m, s, rfl⟩
  · rfl
  · have hm := right_mem hr s (by simp)
    rw [lastEnd_append]
    unfold endw
    rw [List.foldl_append]
    show wrap64 (s.1 + (s.2.size : Int)) = rend s
    obtain ⟨q0, q1, q2⟩ := hm
    unfold rend at *
    exact wrap_in (by omega) q2
end Bl
set_option maxHeartbeats 1000000 in
theorem bytes_any (v : Value) (l : List Bl.R) (w : World) (hv : FieldsAt w.heap.size w v l) :
    Calls Try.prog 11 #[v] w fun e w' => e = .returned (.int .i64 (Bl.sumw l)) ∧ Below w.heap.size w w' := by
  obtain ⟨ao, cap, rfl, hm, hx⟩ := hv.open
  clear hv
  unfold maxLen at hm
  obtain ⟨n, hn⟩ : ∃ n, l.length = n := ⟨_, rfl⟩
  rw [hn] at hm hx ⊢
  have HN : Hid (l.length = n) := hn
  have HX : Hid (∀ j, j < n → ∃ b off, ao = some ⟨b, off, none⟩ ∧ b < w.heap.size ∧ w.cell? ⟨b, off + j * 2, none⟩ = some (.int .i64 (l.getD j (0, .empty)).1) ∧ w.cell? ⟨b, off + j * 2 + 1, none⟩ = some (.string (l.getD j (0, .empty)).2)) := hx
  clear hn hx
  go_enter Try.func11, Try.ntmps11
  go_wp2
  go_loopw [3, 8] (fun t i wr => ∃ (k : Nat) (y : Int), k ≤ n ∧ i = .int .i64 k ∧ t = .int .i64 y ∧ y = Bl.sumw (l.take k) ∧ Below w.heap.size w wr) (fun _ i _ => n - (intOf i).toNat)
  case atStart => exact ⟨0, _, Nat.zero_le _, rfl, rfl, rfl, Below.refl _ _⟩
  case round =>
    obtain ⟨k, y, hk, rfl, rfl, hy, hbl⟩ := hrel
    have HY : Hid (y = Bl.sumw (l.take k)) := hy
    clear hy
    have hsz := hbl.size
    by_cases hlt : k < n
    · obtain ⟨b, off, rfl, hB, c0, c1⟩ := HX.out k hlt
      have hk' : k < l.length := by rw [HN.out]; exact hlt
      rw [← hbl.cell (p := ⟨b, off + k * 2, none⟩) hB] at c0
      rw [← hbl.cell (p := ⟨b, off + k * 2 + 1, none⟩) hB] at c1
      obtain ⟨x, hxk⟩ : ∃ x, l.getD k (0, .empty) = x := ⟨_, rfl⟩
      rw [hxk] at c0 c1
      have HS : Hid (Bl.sumw (l.take (k + 1)) = wrap64 (Bl.sumw (l.take k) + (x.2.size : Int))) := Bl.sumw_succ hk' hxk
      clear hxk
      obtain ⟨t, s'⟩ := x
      simp only at c0 c1 HS
      have hlt' : (k : Int) < (n : Int) := by omega
      go_wp2
      go_roundw
      case rel => exact ⟨k + 1, _, by omega, by go_num, rfl, by rw [HS.out, ← HY.out], hbl.alloc hsz _⟩
      case measure => simp [intOf]; omega
    · obtain rfl : k = n := by omega
      go_wp2
      go_ret
      have h := HY.out
      rw [← HN.out, List.take_length] at h
      rw [h]
      exact ⟨rfl, hbl⟩
set_option maxHeartbeats 2000000 in
theorem checks_law (v : Value) (l : List Bl.R) (w : World) (hv : FieldsAt w.heap.size w v l) (hok : okFields l) :
    Calls Try.prog 3 #[v] w fun e w' => e = .returned (.bool true) ∧ Below w.heap.size w w' := by
  have HV : Hid (FieldsAt w.heap.size w v l) := hv
  obtain ⟨ao, cap, rfl, hm, hx⟩ := hv.open
  clear hv
  unfold maxLen at hm
  obtain ⟨n, hn⟩ : ∃ n, l.length = n := ⟨_, rfl⟩
  rw [hn] at hm hx HV ⊢
  have HN : Hid (l.length = n) := hn
  have HX : Hid (∀ j, j < n → ∃ b off, ao = some ⟨b, off, none⟩ ∧ b < w.heap.size ∧ w.cell? ⟨b, off + j * 2, none⟩ = some (.int .i64 (l.getD j (0, .empty)).1) ∧ w.cell? ⟨b, off + j * 2 + 1, none⟩ = some (.string (l.getD j (0, .empty)).2)) := hx
  have HO : Hid (okFields l) := hok
  clear hn hx hok
  go_enter Try.func3, Try.ntmps3
  go_wp2
  go_loopw [3, 4, 10] (fun t u i wr => ∃ (k : Nat) (y z : Int), k ≤ n ∧ i = .int .i64 k ∧ t = .int .i64 y ∧ u = .int .i64 z ∧ y = Bl.sumw (l.take k) ∧ z = Bl.endw (l.take k) ∧ Below w.heap.size w wr) (fun _ _ i _ => n - (intOf i).toNat)
  case atStart => exact ⟨0, _, _, Nat.zero_le _, rfl, rfl, rfl, rfl, rfl, Below.refl _ _⟩
  case round =>
    obtain ⟨k, y, z, hk, rfl, rfl, rfl, hy, hz, hbl⟩ := hrel
    have HY : Hid (y = Bl.sumw (l.take k) ∧ z = Bl.endw (l.take k)) := ⟨hy, hz⟩
    clear hy hz
    have hsz := hbl.size
    by_cases hlt : k < n
    · obtain ⟨b, off, rfl, hB, c0, c1⟩ := HX.out k hlt
      have hk' : k < l.length := by rw [HN.out]; exact hlt
      rw [← hbl.cell (p := ⟨b, off + k * 2, none⟩) hB] at c0
      rw [← hbl.cell (p := ⟨b, off + k * 2 + 1, none⟩) hB] at c1
      obtain ⟨x, hxk⟩ : ∃ x, l.getD k (0, .empty) = x := ⟨_, rfl⟩
      rw [hxk] at c0 c1
      have HS : Hid (Bl.sumw (l.take (k + 1)) = wrap64 (Bl.sumw (l.take k) + (x.2.size : Int)) ∧ Bl.endw (l.take (k + 1)) = wrap64 (x.1 + (x.2.size : Int))) := ⟨Bl.sumw_succ hk' hxk, Bl.endw_succ hk' hxk⟩
      clear hxk
      obtain ⟨t, s'⟩ := x
      simp only at c0 c1 HS
      have hlt' : (k : Int) < (n : Int) := by omega
      go_wp2
      go_roundw
      case rel => exact ⟨k + 1, _, _, by omega, by go_num, rfl, rfl, by rw [HS.out.1, ← HY.out.1], by rw [HS.out.2], hbl.alloc hsz _⟩
      case measure => simp [intOf]; omega
    · obtain rfl : k = n := by omega
      have HY2 : Hid (y = Bl.sumw l ∧ z = Bl.endw l) := by
        have h := HY.out
        rw [← HN.out, List.take_length] at h
        exact h
      have HB0 : Hid (Below w.heap.size w wr) := hbl
      have HF0 : Hid (FieldsAt wr.heap.size wr (.slice ao k cap) l) := HV.out.up hbl
      clear HY HV hbl
      go_wp2_with fail
      refine (right_any _ l _ HF0.out HO.out).mono ?_
      rintro e w1 ⟨rfl, hb1⟩
      have HB1 : Hid (Below w.heap.size w w1) := HB0.out.trans (hb1.mono HB0.out.size)
      have HF1 : Hid (FieldsAt w1.heap.size w1 (.slice ao k cap) l) := HF0.out.up hb1
      clear hb1
      by_cases hr : Bl.right (-1) l
      · have HE : Hid (Bl.err l = 0) := by show Bl.err l = 0; unfold Bl.err; rw [if_pos hr]
        have HZ : Hid (Bl.endOf l = z) := by show Bl.endOf l = z; rw [HY2.out.2, Bl.endw_right hr]
        rw [decide_eq_true hr]
        clear hr
        go_wp2_with fail
        refine (check_any _ l _ HF1.out HO.out).mono ?_
        rintro e w2 ⟨rfl, hb2⟩
        rw [HE.out]
        have HB2 : Hid (Below w.heap.size w w2) := HB1.out.trans (hb2.mono HB1.out.size)
        have HF2 : Hid (FieldsAt w2.heap.size w2 (.slice ao k cap) l) := HF1.out.up hb2
        clear hb2
        go_wp2_with fail
        refine (bytes_any _ l _ HF2.out).mono ?_
        rintro e w3 ⟨rfl, hb3⟩
        rw [← HY2.out.1]
        have HB3 : Hid (Below w.heap.size w w3) := HB2.out.trans (hb3.mono HB2.out.size)
        have HF3 : Hid (FieldsAt w3.heap.size w3 (.slice ao k cap) l) := HF2.out.up hb3
        clear hb3
        go_wp2_with fail
        refine (End_any _ l _ HF3.out HO.out).mono ?_
        rintro e w4 ⟨rfl, hb4⟩
        rw [HZ.out]
        have HB4 : Hid (Below w.heap.size w w4) := HB3.out.trans (hb4.mono HB3.out.size)
        clear hb4
        go_wp2_with fail
        refine (five_any _).mono ?_
        rintro e w5 ⟨rfl, hb5⟩
        have HB5 : Hid (Below w.heap.size w w5) := HB4.out.trans (hb5.mono HB4.out.size)
        clear hb5
        go_wp2
        go_ret
        exact ⟨rfl, HB5.out⟩
      · have HE : Hid (Bl.err l = 80) := by show Bl.err l = 80; unfold Bl.err; rw [if_neg hr]
        have HZ : Hid (Bl.endOf l = 0) := by show Bl.endOf l = 0; unfold Bl.endOf; rw [if_neg hr]
        rw [decide_eq_false hr]
        clear hr
        go_wp2_with fail
        refine (check_any _ l _ HF1.out HO.out).mono ?_
        rintro e w2 ⟨rfl, hb2⟩
        rw [HE.out]
        have HB2 : Hid (Below w.heap.size w w2) := HB1.out.trans (hb2.mono HB1.out.size)
        have HF2 : Hid (FieldsAt w2.heap.size w2 (.slice ao k cap) l) := HF1.out.up hb2
        clear hb2
        go_wp2_with fail
        refine (bytes_any _ l _ HF2.out).mono ?_
        rintro e w3 ⟨rfl, hb3⟩
        rw [← HY2.out.1]
        have HB3 : Hid (Below w.heap.size w w3) := HB2.out.trans (hb3.mono HB2.out.size)
        have HF3 : Hid (FieldsAt w3.heap.size w3 (.slice ao k cap) l) := HF2.out.up hb3
        clear hb3
        go_wp2_with fail
        refine (End_any _ l _ HF3.out HO.out).mono ?_
        rintro e w4 ⟨rfl, hb4⟩
        rw [HZ.out]
        have HB4 : Hid (Below w.heap.size w w4) := HB3.out.trans (hb4.mono HB3.out.size)
        clear hb4
        go_wp2_with fail
        refine (five_any _).mono ?_
        rintro e w5 ⟨rfl, hb5⟩
        have HB5 : Hid (Below w.heap.size w w5) := HB4.out.trans (hb5.mono HB4.out.size)
        clear hb5
        go_wp2
        go_ret
        exact ⟨rfl, HB5.out⟩

set_option maxRecDepth 100000 in
theorem blobChecks_lifted (os : Os) (started : os.Started) (H : Type) (enc : TypeId × Value → H) :
    ReturnsInHanded {} Try.checked os 3 .any (Rows.blobChecksSpec.pre6 enc Try.prog Try.f3 Rows.blobChecksRow.domain false) (Rows.blobChecksSpec.post enc Try.prog Try.f3 false true false false) := by
  refine returnsInHanded_of_change (C := Try.checked) own started (by kernel_rfl) Try.func3
    (ChangeSpec.witness6 (enc := enc) (C := Try.checked) false ⟨#[], #[.slice none 0 0], []⟩ 8 (by kernel_rfl) (by kernel_rfl) (by kernel_rfl) (by kernel_rfl)) ?_
  intro W base args ds gs before hval0 hW hcnd _
  have hval : ∀ (j : Nat) t v, Try.f3.params[j]? = some t → args[j]? = some v → Value.okWide Try.prog W .any base t v := hval0
  have hW' := hW
  have hlt : ∀ x ∈ before, x.block < W.heap.size := fun x hx => by simpa using hW'.lt x hx
  obtain ⟨p, q, hA0, hV, rfl, hfz, hnd⟩ := hW
  have hA : DataW.TrodAll enc Try.prog W 0 (fun _ => true) true Try.f3.params.toList args.toList ds p := hA0
  rw [Try.params3] at hA hval
  obtain ⟨v0, d0, rfl, rfl, h0⟩ := trodAll_one hA
  obtain ⟨rfl, rfl⟩ := trodVars_none hV
  obtain ⟨l, sp, hF, hok, _⟩ := open_fields Try.underlying22 Try.underlying24 (by kernel_rfl) rfl rfl (by kernel_rfl) (by kernel_rfl) Try.underlying3 Try.underlying9 (okWide_slice Try.underlying22 (hval 0 22 v0 rfl rfl)) (fun x hx => hlt x (by simp [hx])) h0
  refine (checks_law v0 l W hF hok).mono fun e W' ⟨he, hg⟩ => ⟨_, he, ?_⟩
  exact Law.post laidOut (by kernel_rfl) rfl Try.underlying4 hW' rfl rfl hg

theorem blobChecks_holds : Rows.BlobChecksSaid :=
  OpenClaim.holds_of_wide 3 Try.f3 rfl rfl rfl rfl rfl rfl rfl ⟨rfl, rfl, rfl, rfl, rfl⟩ rfl rfl rfl rfl rfl (by kernel_rfl) Try.func3 (by kernel_rfl)
    (of_decide_eq_true (by kernel_rfl)) (by unfold Func.isWrapper; first | (rw [if_pos (by decide +kernel)]; kernel_rfl) | (rw [if_neg (by decide +kernel)]; exact ⟨rfl, rfl⟩))
    (fun os started H enc _ => blobChecks_lifted os started H enc)
#print axioms blobChecks_holds
end Go.Proofs.Ytkkaendfcfkbbaa
