/-
  blob.End, and plain facts on runs that were cut.
-/
import Derived.Test.YtkkaendfcfkbbaaCut
import Derived.Test.YtkkaendfcfkbbaaPlainW
namespace Go.Proofs.Ytkkaendfcfkbbaa
open Go.ChangeShapes Go.WideShapes Go.ChangeAt Go.RowKit Go.Deep

namespace Bl
theorem right_within (a b : Int) : ∀ (l : List R) (last c : Int), right last l → c ≤ last → right c (within a b l)
  | [], _, _, _, _ => trivial
  | r :: l, last, c, h, hc => by
    unfold within
    rw [List.filterMap_cons]
    have h1 := h.1
    cases hx : clip a b r with
    | none => exact right_within a b l (rend r) c h.2 (by unfold rend; omega)
    | some s =>
      obtain ⟨e1, e2, e3⟩ := clip_some hx
      exact ⟨⟨by omega, by omega, by unfold rend at *; omega⟩, right_within a b l (rend r) (rend s) h.2 (by omega)⟩
theorem cut_twice {l : List R} (hr : right (-1) l) (size : Int) : within 0 size (within 0 size l) = within 0 size l := by
  have h1 := right_within 0 size l (-1) (-1) hr (Int.le_refl _)
  refine eq_of_ones (right_within 0 size _ (-1) (-1) h1 (Int.le_refl _)) h1 ?_
  rw [ones_within, ones_within, List.filter_filter]
  apply List.filter_congr
  intro q _
  simp
theorem over_cut {l : List R} (hr : right (-1) l) {size a : Int} {m : Nat} (h : a + (m : Int) ≤ size) : over a m (within 0 size l) = over a m l := by
  unfold over
  apply List.map_congr_left
  intro q hq
  have := List.mem_range.1 hq
  rw [ones_within, look_filter]
  intro p hp e
  have h2 := right_filter hr p hp
  unfold inn
  simp
  omega
theorem over_gone {l : List R} {size : Int} (m : Nat) : over size m (within 0 size l) = List.replicate m 0 := by
  apply List.ext_getElem
  · simp [over]
  · intro i h1 h2
    simp only [over, List.getElem_map, List.getElem_range, List.getElem_replicate]
    rw [ones_within, look_none]
    intro q hq e
    have := (List.mem_filter.1 hq).2
    unfold inn at this
    simp at this
    omega
def endOf (l : List R) : Int := if right (-1) l then lastEnd 0 l else 0
theorem lastEnd_ne {l : List R} (h : l ≠ []) (a b : Int) : lastEnd a l = lastEnd b l := by
  cases l with
  | nil => exact absurd rfl h
  | cons r l => rfl
theorem lastEnd_within (a b : Int) (l : List R) (hb : 0 ≤ b) : lastEnd 0 (within a b l) ≤ b := by
  rcases snoc_cases (within a b l) with h | ⟨m, s, h⟩
  · rw [h]; exact hb
  · rw [h, lastEnd_append]
    show rend s ≤ b
    exact (within_mem s (by rw [h]; simp)).2.1
end Bl
set_option maxHeartbeats 1000000 in
theorem End_any (v : Value) (l : List Bl.R) (w : World) (hv : FieldsAt w.heap.size w v l) (hok : okFields l) :
    Calls Try.prog 12 #[v] w fun e w' => e = .returned (.int .i64 (Bl.endOf l)) ∧ Below w.heap.size w w' := by
  have HV : Hid (FieldsAt w.heap.size w v l) := hv
  obtain ⟨ao, cap, rfl, hm, hx⟩ := hv.open
  clear hv
  unfold maxLen at hm
  by_cases hz : l = []
  · subst hz
    have H : Hid (Bl.endOf [] = 0) := by show Bl.endOf [] = 0; unfold Bl.endOf; split <;> rfl
    rw [H.out]
    go_enter Try.func12, Try.ntmps12
    go_wp2
    go_ret
    exact ⟨rfl, Below.refl _ _⟩
  · have hp : 0 < l.length := List.length_pos_iff.2 hz
    by_cases hr : Bl.right (-1) l
    · obtain ⟨b, off, rfl, hB, c0, c1⟩ := hx (l.length - 1) (by omega)
      have HE : Hid (Bl.err l = 0) := by show Bl.err l = 0; unfold Bl.err; rw [if_pos hr]
      obtain ⟨x, hxk⟩ : ∃ x, l.getD (l.length - 1) (0, .empty) = x := ⟨_, rfl⟩
      have hmem : x ∈ l := by rw [← hxk]; simp [List.getD, List.getElem?_eq_getElem (show l.length - 1 < l.length by omega)]
      obtain ⟨q0, q1, q2⟩ := Bl.right_mem hr _ hmem
      have H : Hid (Bl.endOf l = x.1 + x.2.size) := by
        show Bl.endOf l = _
        have h := Bl.lastEnd_succ (l := l) (k := l.length - 1) (by omega) hxk
        rw [show l.length - 1 + 1 = l.length by omega, List.take_length] at h
        unfold Bl.endOf
        rw [if_pos hr, Bl.lastEnd_ne hz 0 (-1), h]
      rw [hxk] at c0 c1
      obtain ⟨xa, xs⟩ := x
      unfold Bl.rend at q2
      simp only at c0 c1 q0 q1 q2 H
      replace q2 : xa + (xs.size : Int) ≤ 1048576 := q2
      obtain ⟨n, hn⟩ : ∃ n, l.length - 1 = n := ⟨_, rfl⟩
      have hln : l.length = n + 1 := by omega
      rw [hn] at c0 c1
      rw [hln] at HV hm ⊢
      rw [H.out]
      have HO : Hid (okFields l) := hok
      have hnn : ((n + 1 : Nat) : Int) - 1 = (n : Int) := by omega
      clear hxk hmem hx hp hz hn hln hok
      go_enter Try.func12, Try.ntmps12
      go_wp2_with fail
      refine (check_any _ l _ HV.out HO.out).mono ?_
      rintro e w1 ⟨rfl, hb1⟩
      rw [HE.out]
      rw [← hb1.cell (p := ⟨b, off + n * 2, none⟩) hB] at c0
      rw [← hb1.cell (p := ⟨b, off + n * 2 + 1, none⟩) hB] at c1
      go_wp2_with fail
      refine (end_any xa xs _ (by omega) (by omega)).mono ?_
      rintro e w2 ⟨rfl, rfl⟩
      go_wp2
      go_ret
      exact ⟨rfl, hb1.alloc hb1.size _⟩
    · have HE : Hid (Bl.err l = 80) := by show Bl.err l = 80; unfold Bl.err; rw [if_neg hr]
      have H : Hid (Bl.endOf l = 0) := by show Bl.endOf l = 0; unfold Bl.endOf; rw [if_neg hr]
      rw [H.out]
      have hp' : ((l.length : Int) == 0) = false := beq_eq_false_iff_ne.2 (by omega)
      clear hz
      go_enter Try.func12, Try.ntmps12
      go_wp2_with fail
      refine (check_any _ l _ HV.out hok).mono ?_
      rintro e w1 ⟨rfl, hb1⟩
      rw [HE.out]
      go_wp2
      go_ret
      exact ⟨rfl, hb1⟩
end Go.Proofs.Ytkkaendfcfkbbaa
