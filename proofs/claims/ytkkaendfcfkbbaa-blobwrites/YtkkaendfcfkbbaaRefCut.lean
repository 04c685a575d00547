/-
  The document's Cut: what it answers at any runs and size.
-/
import Derived.Test.YtkkaendfcfkbbaaRight
import Derived.Test.YtkkaendfcfkbbaaMade
import Derived.Test.YtkkaendfcfkbbaaEnd
import Derived.Test.YtkkaendfcfkbbaaKit
namespace Go.Proofs.Ytkkaendfcfkbbaa
open Go.ChangeShapes Go.WideShapes Go.ChangeAt Go.RowKit Go.Deep

theorem one2b (a : Int) (c : UInt8) : ∀ u ∈ [Value.int .i64 a, .int .u8 (c.toNat : Int)], u.oneCell' = true := by
  intro u hu
  simp at hu
  rcases hu with rfl | rfl <;> rfl
def Bl.less (s : Int) (q : Int × UInt8) : Bool := decide (q.1 < s)
theorem Bl.made_less {l : List Bl.R} (hr : Bl.right (-1) l) (size : Int) : Bl.made ((Bl.ones l).filter (Bl.less size)) = Bl.within 0 size l := by
  rw [← Bl.made_ones (Bl.right_within 0 size l (-1) (-1) hr (Int.le_refl _)), Bl.ones_within]
  congr 1
  apply List.filter_congr
  intro q hq
  have := Bl.right_filter hr q hq
  unfold Bl.less Bl.inn
  simp
  omega
theorem filter_take_yes {p : Int × UInt8 → Bool} (L : List (Int × UInt8)) {k : Nat} (hk : k < L.length) {x : Int × UInt8} (hx : L.getD k (0, 0) = x) (h : p x = true) : (L.take (k + 1)).filter p = (L.take k).filter p ++ [x] := by
  rw [Bl.take1_succ L hk hx, List.filter_append]
  simp [h]
theorem filter_take_no {p : Int × UInt8 → Bool} (L : List (Int × UInt8)) {k : Nat} (hk : k < L.length) {x : Int × UInt8} (hx : L.getD k (0, 0) = x) (h : p x = false) : (L.take (k + 1)).filter p = (L.take k).filter p := by
  rw [Bl.take1_succ L hk hx, List.filter_append]
  simp [h]

set_option maxHeartbeats 2000000 in
theorem refCut_ok (v : Value) (l : List Bl.R) (size : Int) (w : World) (hv : FieldsAt w.heap.size w v l) (hok : okFields l) (hr : Bl.right (-1) l) (h0 : 0 ≤ size) :
    Calls Try.prog 21 #[v, .int .i64 size] w fun e w' => ∃ r, e = .returned (.tuple #[r, .int .i64 0]) ∧ FieldsAt w'.heap.size w' r (Bl.within 0 size l) ∧ Below w.heap.size w w' := by
  obtain ⟨i1, hi, hz0, hz1, hz2⟩ := info_parts infoOne
  have HV : Hid (FieldsAt w.heap.size w v l) := hv
  have HR : Hid (Bl.right (-1) l) := hr
  have HD : Hid (decide (Bl.right (-1) l) = true) := decide_eq_true hr
  obtain ⟨ao, cap, rfl, hm, _⟩ := hv.open
  clear hv
  obtain ⟨nl, hnl⟩ : ∃ nl, l.length = nl := ⟨_, rfl⟩
  rw [hnl] at HV ⊢
  have h0' : ¬ size < 0 := by omega
  clear hnl hm hr
  go_enter Try.func21, Try.ntmps21
  go_wp2_with fail
  refine (right_any _ l _ HV.out hok).mono ?_
  rintro e w0 ⟨rfl, hb0⟩
  rw [HD.out]
  have HB0 : Hid (Below w.heap.size w w0) := hb0
  have HF0 : Hid (FieldsAt w0.heap.size w0 (.slice ao nl cap) l) := HV.out.up hb0
  clear hb0
  go_wp2_with fail
  refine (ones_any _ l _ HF0.out HR.out).mono ?_
  rintro e w1 ⟨r1, rfl, hown1, hb1⟩
  have HB1 : Hid (Below w.heap.size w w1) := HB0.out.trans (hb1.mono HB0.out.size)
  have hO := OnesAt.of_own hown1
  clear hb1 hown1
  obtain ⟨hbl0, hpl⟩ := ones_bd HR.out
  have HML : Hid (Bl.made ((Bl.ones l).filter (Bl.less size)) = Bl.within 0 size l) := Bl.made_less HR.out size
  obtain ⟨L, hL⟩ : ∃ L, Bl.ones l = L := ⟨_, rfl⟩
  rw [hL] at hO hbl0 hpl HML
  have HP : Hid (∀ q ∈ L, 0 ≤ q.1 ∧ q.1 ≤ 1048576) := hpl
  clear hL hpl
  obtain ⟨bo, capo, rfl, hmo, hx⟩ := hO
  unfold maxLen at hmo
  obtain ⟨n, hn⟩ : ∃ n, L.length = n := ⟨_, rfl⟩
  rw [hn] at hmo hx hbl0 ⊢
  have HN : Hid (L.length = n) := hn
  have HX : Hid (∀ j, j < n → ∃ b off, bo = some ⟨b, off, none⟩ ∧ b < w1.heap.size ∧ w1.cell? ⟨b, off + j * 2, none⟩ = some (.int .i64 (L.getD j (0, 0)).1) ∧ w1.cell? ⟨b, off + j * 2 + 1, none⟩ = some (.int .u8 ((L.getD j (0, 0)).2.toNat : Int))) := hx
  clear hn hx
  go_wp2
  go_loopw [6, 17] (fun o i wr => ∃ k : Nat, k ≤ n ∧ i = .int .i64 k ∧ wr.ownsRow w1.heap.size 56 2 o ((L.take k).filter (Bl.less size)).length (cells1 ((L.take k).filter (Bl.less size))) ∧ Below w1.heap.size w1 wr) (fun _ i _ => n - (intOf i).toNat)
  case atStart => exact ⟨0, Nat.zero_le _, rfl, World.ownsRow_nil _ _ _ _, Below.refl _ _⟩
  case round =>
    obtain ⟨k, hk, rfl, hown, hbl⟩ := hrel
    have hsz := hbl.size
    by_cases hlt : k < n
    · obtain ⟨b, off, rfl, hB, c0, c1⟩ := HX.out k hlt
      have hk' : k < L.length := by rw [HN.out]; exact hlt
      rw [← hbl.cell (p := ⟨b, off + k * 2, none⟩) hB] at c0
      rw [← hbl.cell (p := ⟨b, off + k * 2 + 1, none⟩) hB] at c1
      obtain ⟨x, hxk⟩ : ∃ x, L.getD k (0, 0) = x := ⟨_, rfl⟩
      rw [hxk] at c0 c1
      have HXK : Hid (L.getD k (0, 0) = x) := hxk
      clear hxk
      obtain ⟨xa, xc⟩ := x
      simp only at c0 c1
      have hlt' : (k : Int) < (n : Int) := by omega
      have hbw : b < wr.heap.size := by omega
      by_cases hc : xa < size
      · have HFT : Hid ((L.take (k + 1)).filter (Bl.less size) = (L.take k).filter (Bl.less size) ++ [(xa, xc)]) := filter_take_yes L hk' HXK.out (by simp [Bl.less, hc])
        have hfl : ((L.take k).filter (Bl.less size)).length ≤ 4194304 := by
          have h1 := List.length_filter_le (Bl.less size) (L.take k)
          simp only [List.length_take] at h1
          omega
        generalize (L.take k).filter (Bl.less size) = G at hown HFT hfl
        go_wp2_with (at_builtin; refine wpList_append_own _ rfl (.tmp 25) (.tmp 27) 53 rfl w1.heap.size 56 i1 (.agg #[.int .i64 0, .int .u8 0]) 2 16 Try.underlying53 hi hz0 hz1 hz2 rfl (by decide) _ _ _ rfl ((hown.alloc _).alloc _) ⟨wr.heap.size + 1, 0, none⟩ 1 1 [.int .i64 xa, .int .u8 (xc.toNat : Int)] rfl rfl (two_new _ _ (by simp) _ _ _) (one2b _ _) (by unfold maxLen; omega) (by omega) (by simp; omega) ?_; intro v1 w2 hown2 hgrow2 _)
        go_roundw
        case rel =>
          refine ⟨k + 1, by omega, by go_num, ?_, (((hbl.alloc hsz _).alloc (by simp; omega) _).grown hgrow2 (by simp; omega) (fun g hg => (hown.lt g hg).1))⟩
          rw [HFT.out, List.length_append, cells1_append]
          exact hown2
        case measure => simp [intOf]; omega
      · have HFT : Hid ((L.take (k + 1)).filter (Bl.less size) = (L.take k).filter (Bl.less size)) := filter_take_no L hk' HXK.out (by simp [Bl.less]; omega)
        go_wp2
        go_roundw
        case rel =>
          refine ⟨k + 1, by omega, by go_num, ?_, hbl.alloc hsz _⟩
          rw [HFT.out]
          exact hown.alloc _
        case measure => simp [intOf]; omega
    · obtain rfl : k = n := by omega
      rw [← HN.out, List.take_length] at hown
      have HOO : Hid (OnesAt wr.heap.size wr u6 (L.filter (Bl.less size))) := OnesAt.of_own hown
      have HB2 : Hid (Below w.heap.size w wr) := HB1.out.trans (hbl.mono HB1.out.size)
      have HLn : Hid ((L.filter (Bl.less size)).length ≤ 4194304) := by
        show (L.filter (Bl.less size)).length ≤ 4194304
        have h1 := List.length_filter_le (Bl.less size) L
        have := HN.out
        omega
      clear hown hbl
      go_wp2_with fail
      refine (made_any _ (L.filter (Bl.less size)) _ HOO.out HLn.out (fun q hq => HP.out q (List.mem_filter.1 hq).1)).mono ?_
      rintro e w3 ⟨r3, rfl, hown3, hb3⟩
      rw [HML.out] at hown3
      go_wp2
      go_ret2
      exact ⟨_, rfl, FieldsAt.of_own hown3, HB2.out.trans (hb3.mono HB2.out.size)⟩
theorem refCut_any (v : Value) (l : List Bl.R) (size : Int) (w : World) (hv : FieldsAt w.heap.size w v l) (hok : okFields l) :
    Calls Try.prog 21 #[v, .int .i64 size] w fun e w' => ∃ r, e = .returned (.tuple #[r, .int .i64 (Bl.cErr l size)]) ∧ FieldsAt w'.heap.size w' r (Bl.cOut l size) ∧ Below w.heap.size w w' := by
  by_cases hr : Bl.right (-1) l
  · have HD : Hid (decide (Bl.right (-1) l) = true) := decide_eq_true hr
    by_cases h0 : size < 0
    · have he : Bl.cErr l size = 1 := by unfold Bl.cErr; rw [if_pos hr, if_pos h0]
      have ho : Bl.cOut l size = [] := by unfold Bl.cOut; rw [he, if_neg (by decide)]
      rw [he, ho]
      have HV : Hid (FieldsAt w.heap.size w v l) := hv
      obtain ⟨ao, cap, rfl, hm, _⟩ := hv.open
      clear hv he ho
      go_enter Try.func21, Try.ntmps21
      go_wp2_with fail
      refine (right_any _ l _ HV.out hok).mono ?_
      rintro e w1 ⟨rfl, hb1⟩
      rw [HD.out]
      go_wp2
      go_ret2
      exact ⟨_, rfl, .inl ⟨_, _, rfl, rfl⟩, hb1⟩
    · have he : Bl.cErr l size = 0 := by unfold Bl.cErr; rw [if_pos hr, if_neg h0]
      have ho : Bl.cOut l size = Bl.within 0 size l := by unfold Bl.cOut; rw [if_pos he]
      rw [he, ho]
      exact refCut_ok v l size w hv hok hr (by omega)
  · have HD : Hid (decide (Bl.right (-1) l) = false) := decide_eq_false hr
    have he : Bl.cErr l size = 80 := by unfold Bl.cErr; rw [if_neg hr]
    have ho : Bl.cOut l size = [] := by unfold Bl.cOut; rw [he, if_neg (by decide)]
    rw [he, ho]
    have HV : Hid (FieldsAt w.heap.size w v l) := hv
    obtain ⟨ao, cap, rfl, hm, _⟩ := hv.open
    clear hv he ho
    go_enter Try.func21, Try.ntmps21
    go_wp2_with fail
    refine (right_any _ l _ HV.out hok).mono ?_
    rintro e w1 ⟨rfl, hb1⟩
    rw [HD.out]
    go_wp2
    go_ret2
    exact ⟨_, rfl, .inl ⟨_, _, rfl, rfl⟩, hb1⟩
end Go.Proofs.Ytkkaendfcfkbbaa
