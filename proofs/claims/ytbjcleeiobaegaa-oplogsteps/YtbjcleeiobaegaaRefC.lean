/-
  The reference's log: Cut and Trim, at any one that stands for a list of items; and the log's own, in one sentence each.
-/
import Derived.Test.YtbjcleeiobaegaaRefG
namespace Go.Proofs.Ytbjcleeiobaegaa
open Go.RowKit
def Ol.cutTo (base : Int) (ls : List Ol.It) (n : Int) : List Ol.It := if Ol.reach base ls.length n = 0 then ls.take (n - base).toNat else ls
def Ol.trimErr (base : Int) (len : Nat) (n : Int) : Int := if n < 0 ∨ base + len < n then 6 else 0
def Ol.trimBase (base : Int) (len : Nat) (n : Int) : Int := if n < 0 ∨ base + len < n then base else if n ≤ base then base else n
def Ol.trimTo (base : Int) (ls : List Ol.It) (n : Int) : List Ol.It := if n < 0 ∨ base + ls.length < n then ls else if n ≤ base then ls else ls.drop (n - base).toNat
theorem Ol.reach_zero {base : Int} {len : Nat} {n : Int} (h : Ol.reach base len n = 0) : 0 ≤ n ∧ base ≤ n ∧ n ≤ base + len := by
  unfold Ol.reach at h
  split at h
  · cases h
  · split at h
    · cases h
    · omega
theorem cut_any {s : Nat} {base : Int} {v : Value} {ls : List Ol.It} (n : Int) (w : World) (h : LogAt w s base v ls) : Calls Try.prog 19 #[.pointer (some ⟨s, 0, none⟩), .int .i64 n] w fun e w' => ∃ v', e = .returned (.int .i64 (Ol.reach base ls.length n)) ∧ LogAt w' s base v' (Ol.cutTo base ls n) ∧ Turns w w' s v ∧ Moves w v v' := by
  unfold Ol.cutTo
  by_cases hr : Ol.reach base ls.length n = 0
  · obtain ⟨h0, h1, h2⟩ := Ol.reach_zero hr
    rw [if_pos hr, hr]
    exact cut_ok (n - base).toNat n w h (by omega) (by omega)
  · rw [if_neg hr]
    exact (cut_err n w h hr).mono fun _ _ ⟨he, hg⟩ => ⟨v, he, h.still hg, .of_grown hg, .refl _ _⟩
theorem trim_any {s : Nat} {base : Int} {v : Value} {ls : List Ol.It} (n : Int) (w : World) (h : LogAt w s base v ls) : Calls Try.prog 20 #[.pointer (some ⟨s, 0, none⟩), .int .i64 n] w fun e w' => ∃ v', e = .returned (.int .i64 (Ol.trimErr base ls.length n)) ∧ LogAt w' s (Ol.trimBase base ls.length n) v' (Ol.trimTo base ls n) ∧ Turns w w' s v ∧ Moves w v v' := by
  unfold Ol.trimTo Ol.trimErr Ol.trimBase
  by_cases hr : n < 0 ∨ base + ls.length < n
  · rw [if_pos hr, if_pos hr, if_pos hr]
    exact (trim_err n w h hr).mono fun _ _ ⟨he, hg⟩ => ⟨v, he, h.still hg, .of_grown hg, .refl _ _⟩
  · rw [if_neg hr, if_neg hr, if_neg hr]
    by_cases hb : n ≤ base
    · rw [if_pos hb, if_pos hb]
      exact (trim_old n w h (by omega) hb).mono fun _ _ ⟨he, hg⟩ => ⟨v, he, h.still hg, .of_grown hg, .refl _ _⟩
    · rw [if_neg hb, if_neg hb]
      exact trim_ok (n - base).toNat n w h (by omega) (by omega) (by omega)
namespace Rf
theorem log_put {W : World} {s : Nat} {base : Int} {v u : Value} {ls : List Ol.It} (hb : W.heap[s]? = some (.cells #[.int .i64 base, v] 43 (0, 0))) (hr : Row W (s + 1) 32 u ls) (hg : Ol.Good base ls) : LogAt (W.setCell ⟨s, 1, none⟩ u) s base u ls :=
  ⟨by simp [World.setCell, Array.getElem?_modify, hb], row_set hr (by omega) 1 _, hg⟩

set_option maxHeartbeats 1000000 in
set_option maxRecDepth 100000 in
theorem cut_any {s : Nat} {base : Int} {v : Value} {ls : List Ol.It} (n : Int) (w : World) (h : LogAt w s base v ls) : Calls Try.prog 27 #[.pointer (some ⟨s, 0, none⟩), .int .i64 n] w fun e w' => ∃ v', e = .returned (.int .i64 (Ol.reach base ls.length n)) ∧ LogAt w' s base v' (Ol.cutTo base ls n) ∧ Turns w w' s v ∧ Moves w v v' := by
  have H : Hid (LogAt w s base v ls) := h
  have g0 := h.good.zero
  have g1 := h.good.top
  unfold Ol.cutTo
  by_cases hr : Ol.reach base ls.length n = 0
  · obtain ⟨h0, h1, h2⟩ := Ol.reach_zero hr
    rw [if_pos hr, hr]
    have HR : Hid (Ol.reach base ls.length n = 0) := hr
    obtain ⟨k, hkd⟩ : ∃ k, (n - base).toNat = k := ⟨_, rfl⟩
    have HK : Hid (k ≤ ls.length ∧ n = base + k) := ⟨by omega, by omega⟩
    rw [hkd]
    clear h hr hkd
    go_enter Try.func27, Try.ntmps27
    go_wp2_with fail
    refine (at_any _ _ H.out).mono ?_
    rintro e w1 ⟨rfl, hg1⟩
    rw [HR.out]
    have HL1 : Hid (LogAt w1 s base v ls) := H.out.still hg1
    have HG1 : Hid (w.grownBy w1 none) := hg1
    obtain ⟨c0, c1⟩ := HL1.out.cells
    have f1 := HL1.out.free 1
    clear hg1
    have hnk : n - base = (k : Int) := by have := HK.out.2; omega
    have hm : k ≤ ls.length := HK.out.1
    rcases HL1.out.row with ⟨rfl, he⟩ | ⟨g, off, cap, cur, rfl, hB, hg, hlc, hcm, hoc, htk⟩
    · have hk0 : k = 0 := by rw [he] at hm; simpa using hm
      subst hk0
      have HE : Hid (LogAt ((w1.setCell ⟨s, 1, none⟩ (.slice none 0 0)).drew) s base (.slice none 0 0) (ls.take 0) ∧ Turns w ((w1.setCell ⟨s, 1, none⟩ (.slice none 0 0)).drew) s (.slice none 0 0)) := by
        have h2 : LogAt (w1.setCell ⟨s, 1, none⟩ (.slice none 0 0)) s base (.slice none 0 0) (ls.take 0) := log_put HL1.out.block (by rw [List.take_zero]; exact Row.nil _ _ _) (H.out.good.cut 0)
        have h3 := turns_set (Turns.of_grown (s := s) (v := .slice none 0 0) HG1.out) 1 (.slice none 0 0)
        exact ⟨h2.drew, ⟨h3.os, h3.tape, h3.output, h3.size, h3.block⟩⟩
      go_wp2_with fail
      go_region
      go_wp2
      go_ret
      exact ⟨_, rfl, HE.out.1, HE.out.2, .inl rfl⟩
    · have HE : Hid (LogAt ((w1.setCell ⟨s, 1, none⟩ (.slice (some ⟨g, off, none⟩) k cap)).drew) s base (.slice (some ⟨g, off, none⟩) k cap) (ls.take k) ∧ Turns w ((w1.setCell ⟨s, 1, none⟩ (.slice (some ⟨g, off, none⟩) k cap)).drew) s (.slice (some ⟨g, off, none⟩) ls.length cap)) := by
        have h2 : LogAt (w1.setCell ⟨s, 1, none⟩ (.slice (some ⟨g, off, none⟩) k cap)) s base (.slice (some ⟨g, off, none⟩) k cap) (ls.take k) := log_put HL1.out.block (HL1.out.row.take hm (by omega) (Nat.le_refl _)) (H.out.good.cut k)
        have h3 := turns_set (Turns.of_grown (s := s) (v := .slice (some ⟨g, off, none⟩) ls.length cap) HG1.out) 1 (.slice (some ⟨g, off, none⟩) k cap)
        exact ⟨h2.drew, ⟨h3.os, h3.tape, h3.output, h3.size, h3.block⟩⟩
      obtain ⟨m, hmd⟩ : ∃ m, ls.length = m := ⟨_, rfl⟩
      rw [hmd] at c1 hm hlc
      have HM : Hid (ls.length = m) := hmd
      have hkc : (k : Int) ≤ (cap : Int) := by omega
      have hk0 : (0 : Int) ≤ (k : Int) := by omega
      have hcm' : (cap : Int) ≤ 9223372036854775807 := by unfold maxLen at hcm; omega
      have hs1 := HL1.out.lt
      clear hg htk hmd hcm hoc
      go_wp2_with fail
      go_region
      go_wp2
      go_ret
      exact ⟨_, rfl, HE.out.1, HE.out.2, .inl rfl⟩
  · have HR : Hid (¬ Ol.reach base ls.length n = 0) := hr
    rw [if_neg hr]
    obtain ⟨e0, hee⟩ : ∃ e0, Ol.reach base ls.length n = e0 := ⟨_, rfl⟩
    have HEE : Hid (Ol.reach base ls.length n = e0) := hee
    rw [hee] at hr ⊢
    clear h hee
    go_enter Try.func27, Try.ntmps27
    go_wp2_with fail
    refine (at_any _ _ H.out).mono ?_
    rintro e w1 ⟨rfl, hg1⟩
    rw [HEE.out]
    have HL1 : Hid (LogAt w1 s base v ls) := H.out.still hg1
    have HG1 : Hid (w.grownBy w1 none) := hg1
    clear hg1
    go_wp2
    go_ret
    exact ⟨v, rfl, HL1.out, .of_grown HG1.out, .refl _ _⟩

theorem log_put2 {W : World} {s : Nat} {base n : Int} {v u : Value} {ls : List Ol.It} (hb : W.heap[s]? = some (.cells #[.int .i64 base, v] 43 (0, 0))) (hr : Row W (s + 1) 32 u ls) (hg : Ol.Good n ls) : LogAt ((W.setCell ⟨s, 1, none⟩ u).setCell ⟨s, 0, none⟩ (.int .i64 n)) s n u ls :=
  ⟨by simp [World.setCell, Array.getElem?_modify, hb], row_set (row_set hr (by omega) 1 _) (by omega) 0 _, hg⟩
theorem turns_drew {w W : World} {s : Nat} {v : Value} (h : Turns w W s v) : Turns w W.drew s v := ⟨h.os, h.tape, h.output, h.size, h.block⟩

set_option maxHeartbeats 1000000 in
set_option maxRecDepth 100000 in
theorem trim_ok {s : Nat} {base : Int} {v : Value} {ls : List Ol.It} (k : Nat) (n : Int) (w : World) (h : LogAt w s base v ls) (hk : k ≤ ls.length) (h0 : 0 < k) (hn : n = base + k) : Calls Try.prog 28 #[.pointer (some ⟨s, 0, none⟩), .int .i64 n] w fun e w' => ∃ v', e = .returned (.int .i64 0) ∧ LogAt w' s n v' (ls.drop k) ∧ Turns w w' s v ∧ Moves w v v' := by
  have H : Hid (LogAt w s base v ls) := h
  have HK : Hid (k ≤ ls.length ∧ n = base + k) := ⟨hk, hn⟩
  have g0 := h.good.zero
  have g1 := h.good.top
  obtain ⟨m, hmd⟩ : ∃ m, ls.length = m := ⟨_, rfl⟩
  have HM : Hid (ls.length = m) := hmd
  have n2 : ¬ n < 0 := by omega
  have n3 : ¬ base + (m : Int) < n := by omega
  have n4 : base < n := by omega
  have hnk : n - base = (k : Int) := by omega
  rw [hmd] at hk g1
  clear h hn hmd
  go_enter Try.func28, Try.ntmps28
  go_wp2_with fail
  refine (last_g _ H.out).mono ?_
  rintro e w1 ⟨rfl, hg1⟩
  rw [HM.out]
  have HL1 : Hid (LogAt w1 s base v ls) := H.out.still hg1
  have HG1 : Hid (w.grownBy w1 none) := hg1
  obtain ⟨c0, c1⟩ := HL1.out.cells
  have f1 := HL1.out.free 1
  have f0 := HL1.out.free 0
  have hs1 := HL1.out.lt
  clear hg1
  rcases HL1.out.row with ⟨rfl, he⟩ | ⟨g, off, cap, cur, rfl, hB, hg, hlc, hcm, hoc, htk⟩
  · have := HM.out
    rw [he] at this
    simp at this
    omega
  · rw [HM.out] at c1 hlc
    have hcm' : (cap : Int) ≤ 9223372036854775807 := by unfold maxLen at hcm; omega
    have hkI : (k : Int) ≤ (m : Int) := by omega
    have hmc : (m : Int) ≤ (cap : Int) := by omega
    have hk0 : (0 : Int) ≤ (k : Int) := by omega
    have hkc' : (k : Int) ≤ (cap : Int) := by omega
    by_cases hkc : k = cap
    · have hkm : m = k := by omega
      have HE : Hid (LogAt ((w1.setCell ⟨s, 1, none⟩ (.slice (some ⟨g, off, none⟩) 0 0)).drew.setCell ⟨s, 0, none⟩ (.int .i64 n)) s n (.slice (some ⟨g, off, none⟩) 0 0) (ls.drop k) ∧ Turns w ((w1.setCell ⟨s, 1, none⟩ (.slice (some ⟨g, off, none⟩) 0 0)).drew.setCell ⟨s, 0, none⟩ (.int .i64 n)) s (.slice (some ⟨g, off, none⟩) ls.length cap)) := by
        have hd : ls.drop k = [] := by rw [List.drop_eq_nil_iff, HM.out]; omega
        have hrow : Row w1 (s + 1) 32 (.slice (some ⟨g, off, none⟩) 0 0) (ls.drop k) := by
          rw [hd]
          exact .inr ⟨g, off, 0, cur, by simp, hB, hg, by simp, by simp, by omega, by simp [Ol.cells]⟩
        have hgd : Ol.Good n (ls.drop k) := by rw [HK.out.2]; exact H.out.good.trim HK.out.1
        have h3 := turns_set (turns_drew (turns_set (Turns.of_grown (s := s) (v := .slice (some ⟨g, off, none⟩) ls.length cap) HG1.out) 1 (.slice (some ⟨g, off, none⟩) 0 0))) 0 (.int .i64 n)
        have h2 := log_put2 HL1.out.block hrow hgd
        exact ⟨⟨h2.block, h2.row, h2.good⟩, h3⟩
      clear hg htk hoc hcm
      go_wp2_with fail
      go_region
      go_wp2
      go_ret
      exact ⟨_, rfl, HE.out.1, HE.out.2, .inl rfl⟩
    · have HE : Hid (LogAt ((w1.setCell ⟨s, 1, none⟩ (.slice (some ⟨g, off + k * 4, none⟩) (m - k) (cap - k))).drew.setCell ⟨s, 0, none⟩ (.int .i64 n)) s n (.slice (some ⟨g, off + k * 4, none⟩) (m - k) (cap - k)) (ls.drop k) ∧ Turns w ((w1.setCell ⟨s, 1, none⟩ (.slice (some ⟨g, off + k * 4, none⟩) (m - k) (cap - k))).drew.setCell ⟨s, 0, none⟩ (.int .i64 n)) s (.slice (some ⟨g, off, none⟩) ls.length cap)) := by
        have hrow : Row w1 (s + 1) 32 (.slice (some ⟨g, off + k * 4, none⟩) (m - k) (cap - k)) (ls.drop k) := by
          have := HL1.out.row.drop (k := k) (c := cap - k) HK.out.1 (by omega) (by rw [HM.out]; omega)
          rw [HM.out] at this
          exact this
        have hgd : Ol.Good n (ls.drop k) := by rw [HK.out.2]; exact H.out.good.trim HK.out.1
        have h3 := turns_set (turns_drew (turns_set (Turns.of_grown (s := s) (v := .slice (some ⟨g, off, none⟩) ls.length cap) HG1.out) 1 (.slice (some ⟨g, off + k * 4, none⟩) (m - k) (cap - k)))) 0 (.int .i64 n)
        have h2 := log_put2 HL1.out.block hrow hgd
        exact ⟨⟨h2.block, h2.row, h2.good⟩, h3⟩
      have hklt : (k : Int) < (cap : Int) := by omega
      clear hg htk hoc hcm
      go_wp2_with fail
      go_region
      go_wp2
      go_ret
      exact ⟨_, rfl, HE.out.1, HE.out.2, .inl rfl⟩

set_option maxHeartbeats 1000000 in
set_option maxRecDepth 100000 in
theorem trim_same {s : Nat} {base : Int} {v : Value} {ls : List Ol.It} (n : Int) (w : World) (h : LogAt w s base v ls) (hn : n < 0 ∨ base + ls.length < n ∨ n ≤ base) : Calls Try.prog 28 #[.pointer (some ⟨s, 0, none⟩), .int .i64 n] w fun e w' => e = .returned (.int .i64 (Ol.trimErr base ls.length n)) ∧ w.grownBy w' none := by
  have H : Hid (LogAt w s base v ls) := h
  have g0 := h.good.zero
  obtain ⟨m, hmd⟩ : ∃ m, ls.length = m := ⟨_, rfl⟩
  have HM : Hid (ls.length = m) := hmd
  have HG0 : Hid (w.grownBy w none) := grown_refl _ _
  unfold Ol.trimErr
  rw [hmd] at hn ⊢
  clear h hmd
  by_cases h0 : n < 0
  · rw [if_pos (.inl h0)]
    clear hn
    go_enter Try.func28, Try.ntmps28
    go_wp2
    go_ret
    exact ⟨rfl, HG0.out⟩
  · by_cases h1 : base + (m : Int) < n
    · rw [if_pos (.inr h1)]
      clear hn
      go_enter Try.func28, Try.ntmps28
      go_wp2_with fail
      refine (last_g _ H.out).mono ?_
      rintro e w1 ⟨rfl, hg⟩
      have HG : Hid (w.grownBy w1 none) := hg
      clear hg
      rw [HM.out]
      go_wp2
      go_ret
      exact ⟨rfl, HG.out⟩
    · rw [if_neg (by omega)]
      have h2 : n ≤ base := by omega
      clear hn
      go_enter Try.func28, Try.ntmps28
      go_wp2_with fail
      refine (last_g _ H.out).mono ?_
      rintro e w1 ⟨rfl, hg⟩
      have HG : Hid (w.grownBy w1 none) := hg
      obtain ⟨c0, _⟩ := (H.out.still hg).cells
      clear hg
      rw [HM.out]
      go_wp2
      go_ret
      exact ⟨rfl, HG.out⟩
theorem trim_any {s : Nat} {base : Int} {v : Value} {ls : List Ol.It} (n : Int) (w : World) (h : LogAt w s base v ls) : Calls Try.prog 28 #[.pointer (some ⟨s, 0, none⟩), .int .i64 n] w fun e w' => ∃ v', e = .returned (.int .i64 (Ol.trimErr base ls.length n)) ∧ LogAt w' s (Ol.trimBase base ls.length n) v' (Ol.trimTo base ls n) ∧ Turns w w' s v ∧ Moves w v v' := by
  unfold Ol.trimTo Ol.trimBase
  by_cases hr : n < 0 ∨ base + ls.length < n
  · rw [if_pos hr, if_pos hr]
    exact (trim_same n w h (by omega)).mono fun _ _ ⟨he, hg⟩ => ⟨v, he, h.still hg, .of_grown hg, .refl _ _⟩
  · rw [if_neg hr, if_neg hr]
    by_cases hb : n ≤ base
    · rw [if_pos hb, if_pos hb]
      exact (trim_same n w h (by omega)).mono fun _ _ ⟨he, hg⟩ => ⟨v, he, h.still hg, .of_grown hg, .refl _ _⟩
    · rw [if_neg hb, if_neg hb]
      have e : Ol.trimErr base ls.length n = 0 := by unfold Ol.trimErr; rw [if_neg hr]
      rw [e]
      exact trim_ok (n - base).toNat n w h (by omega) (by omega) (by omega)
end Rf
end Go.Proofs.Ytbjcleeiobaegaa
