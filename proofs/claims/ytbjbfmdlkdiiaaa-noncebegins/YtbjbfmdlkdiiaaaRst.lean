/-
  nonce's Covers and Old, the document's Old.
-/
import Derived.Test.YtbjbfmdlkdiiaaaChk
namespace Go.Proofs.Ytbjbfmdlkdiiaaa
open Go.RowKit

namespace Nc
def oldE (a : List Int) (f : Int) (b : List Int) : Int := if two a b then (if 0 ≤ f ∧ f < a.length then 0 else 1) else 4
def oldB (a : List Int) (f : Int) (b : List Int) : Bool := if two a b then (if 0 ≤ f ∧ f < a.length then decide (b.getD f.toNat 0 < a.getD f.toNat 0) else false) else false
def covB (a b : List Int) : Bool := two a b && cov a b a.length
end Nc
set_option maxRecDepth 100000 in
set_option maxHeartbeats 1000000 in
theorem covers_any (u v : Value) (a b : List Int) (w : World) (hu : IntsAt w u a) (hv : IntsAt w v b) : Calls Try.prog 17 #[u, v] w fun e w' => e = .returned (.tuple #[.bool (Nc.covB a b), .int .i64 (Nc.e2 a b)]) ∧ ∃ q, w' = w.drewN q := by
  have HU : Hid (IntsAt w u a) := hu
  have HV : Hid (IntsAt w v b) := hv
  cases ht : Nc.two a b with
  | false =>
    have HC : Hid (Nc.covB a b = false) := show Nc.covB a b = false by unfold Nc.covB; rw [ht]; rfl
    have HE : Hid (Nc.e2 a b = 4) := Nc.e2_no ht
    obtain ⟨ao, ca, rfl, hma⟩ := hu.slice
    obtain ⟨bo, cb, rfl, hmb⟩ := hv.slice
    clear hu hv ht
    go_enter Try.func17, Try.ntmps17
    go_wp2_with fail
    refine (refuse_any _ _ a b _ HU.out HV.out).mono ?_
    rintro e w1 ⟨rfl, rfl⟩
    rw [HE.out]
    go_wp2
    go_ret2
    rw [HC.out, HE.out]
    exact ⟨rfl, 0, rfl⟩
  | true =>
    have HC : Hid (Nc.covB a b = Nc.cov a b a.length) := show Nc.covB a b = Nc.cov a b a.length by unfold Nc.covB; rw [ht]; rfl
    have HE : Hid (Nc.e2 a b = 0) := Nc.e2_yes ht
    obtain ⟨h1, h2, h3⟩ := Nc.two_iff.1 ht
    have hn := Nc.isC_le (Nc.vec_iff.1 h1).2
    obtain ⟨ba, oa, ca, rfl, hBa, hla, hma, hxa⟩ := hu.pos hn.2
    obtain ⟨bb, ob, cb, rfl, hBb, hlb, hmb, hxb⟩ := hv.pos (by omega)
    obtain ⟨n, hnn⟩ : ∃ n, a.length = n := ⟨_, rfl⟩
    rw [← h3, hnn] at hxb hlb HV
    rw [hnn] at hxa hla hn HC HU
    rw [← h3, hnn]
    have HX : Hid ((∀ i, i < n → w.cell? ⟨ba, oa + i, none⟩ = some (.int .i64 (a.getD i 0))) ∧ ∀ i, i < n → w.cell? ⟨bb, ob + i, none⟩ = some (.int .i64 (b.getD i 0))) := ⟨hxa, hxb⟩
    clear hu hv ht h1 h2 h3 hxa hxb hnn
    go_enter Try.func17, Try.ntmps17
    go_wp2_with fail
    refine (refuse_any _ _ a b _ HU.out HV.out).mono ?_
    rintro e w1 ⟨rfl, rfl⟩
    rw [HE.out]
    go_wp2
    go_loopw [16] (fun t wr => ∃ k q : Nat, k ≤ n ∧ t = .int .i64 k ∧ Hid (Nc.cov a b k = true) ∧ Hid (wr = w1.drewN q)) (fun t _ => n - (intOf t).toNat)
    case atStart => exact ⟨0, 0, Nat.zero_le _, rfl, rfl, rfl⟩
    case round =>
      obtain ⟨k, q, hk, rfl, HK, HW⟩ := hrel
      by_cases hlt : k < n
      · have hltI : (k : Int) < (n : Int) := by omega
        have ca0 : wr.cell? ⟨ba, oa + k, none⟩ = some (.int .i64 (a.getD k 0)) := by rw [HW.out]; exact HX.out.1 k hlt
        have cb0 : wr.cell? ⟨bb, ob + k, none⟩ = some (.int .i64 (b.getD k 0)) := by rw [HW.out]; exact HX.out.2 k hlt
        by_cases hxy : a.getD k 0 < b.getD k 0
        · have HF : Hid (Nc.cov a b n = false) := Nc.cov_false hlt hxy
          generalize a.getD k 0 = x at *
          generalize b.getD k 0 = y at *
          go_wp2
          go_quiet (fail)
          go_wp2
          go_ret2
          rw [HC.out, HF.out, HE.out]
          exact ⟨rfl, _, by rw [HW.out, World.drewN_drewN]⟩
        · have HF : Hid (Nc.cov a b (k + 1) = true) := show Nc.cov a b (k + 1) = true by rw [Nc.cov_succ, HK.out, Bool.true_and, decide_eq_true_eq]; omega
          generalize a.getD k 0 = x at *
          generalize b.getD k 0 = y at *
          go_wp2
          go_quiet (fail)
          go_wp2
          go_roundw
          case rel => exact ⟨k + 1, _, by omega, by go_num, HF, show _ = _ by rw [HW.out, World.drewN_drewN]⟩
          case measure => simp [intOf]; omega
      · obtain rfl : n = k := by omega
        go_wp2
        go_ret2
        rw [HC.out, HK.out, HE.out]
        exact ⟨rfl, q, HW.out⟩
set_option maxRecDepth 100000 in
set_option maxHeartbeats 1000000 in
theorem old_any (u v : Value) (a b : List Int) (f : Int) (w : World) (hu : IntsAt w u a) (hv : IntsAt w v b) : Calls Try.prog 18 #[u, .int .i64 f, v] w fun e w' => e = .returned (.tuple #[.bool (Nc.oldB a f b), .int .i64 (Nc.oldE a f b)]) ∧ ∃ q, w' = w.drewN q := by
  have HU : Hid (IntsAt w u a) := hu
  have HV : Hid (IntsAt w v b) := hv
  cases ht : Nc.two a b with
  | false =>
    have HC : Hid (Nc.oldB a f b = false) := show Nc.oldB a f b = false by unfold Nc.oldB; rw [ht]; rfl
    have HO : Hid (Nc.oldE a f b = 4) := show Nc.oldE a f b = 4 by unfold Nc.oldE; rw [ht]; rfl
    have HE : Hid (Nc.e2 a b = 4) := Nc.e2_no ht
    obtain ⟨ao, ca, rfl, hma⟩ := hu.slice
    obtain ⟨bo, cb, rfl, hmb⟩ := hv.slice
    clear hu hv ht
    go_enter Try.func18, Try.ntmps18
    go_wp2_with fail
    refine (refuse_any _ _ a b _ HU.out HV.out).mono ?_
    rintro e w1 ⟨rfl, rfl⟩
    rw [HE.out]
    go_wp2
    go_ret2
    rw [HC.out, HO.out]
    exact ⟨rfl, 0, rfl⟩
  | true =>
    have HE : Hid (Nc.e2 a b = 0) := Nc.e2_yes ht
    obtain ⟨h1, h2, h3⟩ := Nc.two_iff.1 ht
    have hn := Nc.isC_le (Nc.vec_iff.1 h1).2
    obtain ⟨ba, oa, ca, rfl, hBa, hla, hma, hxa⟩ := hu.pos hn.2
    obtain ⟨bb, ob, cb, rfl, hBb, hlb, hmb, hxb⟩ := hv.pos (by omega)
    obtain ⟨n, hnn⟩ : ∃ n, a.length = n := ⟨_, rfl⟩
    rw [← h3, hnn] at hxb hlb HV
    rw [hnn] at hxa hla hn HU
    rw [← h3, hnn]
    by_cases hf : 0 ≤ f ∧ f < (n : Int)
    · obtain ⟨k, rfl⟩ : ∃ k : Nat, f = k := ⟨f.toNat, by omega⟩
      have hk : k < n := by omega
      have hk0 : (0 : Int) ≤ (k : Int) := by omega
      have hkI : (k : Int) < (n : Int) := by omega
      have HB : Hid (Nc.oldB a k b = decide (b.getD k 0 < a.getD k 0)) := show Nc.oldB a k b = _ by unfold Nc.oldB; rw [ht, if_pos rfl, hnn, if_pos hf]; rfl
      have HO : Hid (Nc.oldE a k b = 0) := show Nc.oldE a k b = 0 by unfold Nc.oldE; rw [ht, if_pos rfl, hnn, if_pos hf]
      have HD : Hid (decide (0 ≤ (k : Int) ∧ (k : Int) < (n : Int)) = true) := show decide (0 ≤ (k : Int) ∧ (k : Int) < (n : Int)) = true by simpa using hf
      have ca0 := hxa k hk
      have cb0 := hxb k hk
      clear hu hv ht h1 h2 h3 hxa hxb hnn hf
      generalize a.getD k 0 = x at *
      generalize b.getD k 0 = y at *
      go_enter Try.func18, Try.ntmps18
      go_wp2_with fail
      refine (refuse_any _ _ a b _ HU.out HV.out).mono ?_
      rintro e w1 ⟨rfl, rfl⟩
      rw [HE.out]
      go_wp2_with fail
      refine (isNode_any _ _ _).mono ?_
      rintro e w1 ⟨rfl, rfl⟩
      rw [HD.out]
      go_wp2
      go_quiet (fail)
      go_wp2
      go_ret2
      rw [HB.out, HO.out]
      exact ⟨rfl, _, rfl⟩
    · have HB : Hid (Nc.oldB a f b = false) := show Nc.oldB a f b = false by unfold Nc.oldB; rw [ht, if_pos rfl, hnn, if_neg hf]
      have HO : Hid (Nc.oldE a f b = 1) := show Nc.oldE a f b = 1 by unfold Nc.oldE; rw [ht, if_pos rfl, hnn, if_neg hf]
      have HD : Hid (decide (0 ≤ f ∧ f < (n : Int)) = false) := show decide (0 ≤ f ∧ f < (n : Int)) = false by simpa using hf
      clear hu hv ht h1 h2 h3 hxa hxb hnn hf
      go_enter Try.func18, Try.ntmps18
      go_wp2_with fail
      refine (refuse_any _ _ a b _ HU.out HV.out).mono ?_
      rintro e w1 ⟨rfl, rfl⟩
      rw [HE.out]
      go_wp2_with fail
      refine (isNode_any _ _ _).mono ?_
      rintro e w1 ⟨rfl, rfl⟩
      rw [HD.out]
      go_wp2
      go_ret2
      rw [HB.out, HO.out]
      exact ⟨rfl, 0, rfl⟩
/-- The document's test of two vectors, as a way through the region of three tests. -/
theorem Nc.two_cases (a b : List Int) : (Nc.vec a = false ∧ Nc.two a b = false) ∨ (Nc.vec a = true ∧ Nc.vec b = false ∧ Nc.two a b = false) ∨ (Nc.vec a = true ∧ Nc.vec b = true ∧ a.length ≠ b.length ∧ Nc.two a b = false) ∨ (Nc.vec a = true ∧ Nc.vec b = true ∧ a.length = b.length ∧ Nc.two a b = true) := by
  unfold Nc.two
  cases Nc.vec a <;> cases Nc.vec b <;> simp
  by_cases h : a.length = b.length <;> simp [h]
set_option maxRecDepth 100000 in
set_option maxHeartbeats 1000000 in
theorem rold_any (u v : Value) (a b : List Int) (f : Int) (w : World) (hu : IntsAt w u a) (hv : IntsAt w v b) : Calls Try.prog 19 #[u, .int .i64 f, v] w fun e w' => e = .returned (.tuple #[.bool (Nc.oldB a f b), .int .i64 (Nc.oldE a f b)]) ∧ ∃ q, w' = w.drewN q := by
  have HU : Hid (IntsAt w u a) := hu
  have HV : Hid (IntsAt w v b) := hv
  rcases Nc.two_cases a b with ⟨h1, ht⟩ | ⟨h1, h2, ht⟩ | ⟨h1, h2, h3, ht⟩ | ⟨h1, h2, h3, ht⟩
  · have HC : Hid (Nc.oldB a f b = false) := show Nc.oldB a f b = false by unfold Nc.oldB; rw [ht]; rfl
    have HO : Hid (Nc.oldE a f b = 4) := show Nc.oldE a f b = 4 by unfold Nc.oldE; rw [ht]; rfl
    have H1 : Hid (Nc.vec a = false) := h1
    obtain ⟨ao, ca, rfl, hma⟩ := hu.slice
    obtain ⟨bo, cb, rfl, hmb⟩ := hv.slice
    clear hu hv ht h1
    go_enter Try.func19, Try.ntmps19
    go_wp2_with fail
    refine (right_any _ a _ HU.out).mono ?_
    rintro e w1 ⟨rfl, rfl⟩
    rw [H1.out]
    go_wp2
    go_ret2
    rw [HC.out, HO.out]
    exact ⟨rfl, 0, rfl⟩
  · have HC : Hid (Nc.oldB a f b = false) := show Nc.oldB a f b = false by unfold Nc.oldB; rw [ht]; rfl
    have HO : Hid (Nc.oldE a f b = 4) := show Nc.oldE a f b = 4 by unfold Nc.oldE; rw [ht]; rfl
    have H1 : Hid (Nc.vec a = true) := h1
    have H2 : Hid (Nc.vec b = false) := h2
    obtain ⟨ao, ca, rfl, hma⟩ := hu.slice
    obtain ⟨bo, cb, rfl, hmb⟩ := hv.slice
    clear hu hv ht h1 h2
    go_enter Try.func19, Try.ntmps19
    go_wp2_with fail
    refine (right_any _ a _ HU.out).mono ?_
    rintro e w1 ⟨rfl, rfl⟩
    rw [H1.out]
    go_wp2_with fail
    refine (right_any _ b _ HV.out).mono ?_
    rintro e w1 ⟨rfl, rfl⟩
    rw [H2.out]
    go_wp2
    go_ret2
    rw [HC.out, HO.out]
    exact ⟨rfl, 0, rfl⟩
  · have HC : Hid (Nc.oldB a f b = false) := show Nc.oldB a f b = false by unfold Nc.oldB; rw [ht]; rfl
    have HO : Hid (Nc.oldE a f b = 4) := show Nc.oldE a f b = 4 by unfold Nc.oldE; rw [ht]; rfl
    have H1 : Hid (Nc.vec a = true) := h1
    have H2 : Hid (Nc.vec b = true) := h2
    have hq : ((a.length : Int) != (b.length : Int)) = true := by simp; omega
    obtain ⟨ao, ca, rfl, hma⟩ := hu.slice
    obtain ⟨bo, cb, rfl, hmb⟩ := hv.slice
    clear hu hv ht h1 h2 h3
    go_enter Try.func19, Try.ntmps19
    go_wp2_with fail
    refine (right_any _ a _ HU.out).mono ?_
    rintro e w1 ⟨rfl, rfl⟩
    rw [H1.out]
    go_wp2_with fail
    refine (right_any _ b _ HV.out).mono ?_
    rintro e w1 ⟨rfl, rfl⟩
    rw [H2.out]
    go_wp2
    go_ret2
    rw [HC.out, HO.out]
    exact ⟨rfl, 0, rfl⟩
  · have hn := Nc.isC_le (Nc.vec_iff.1 h1).2
    have H1 : Hid (Nc.vec a = true) := h1
    have H2 : Hid (Nc.vec b = true) := h2
    obtain ⟨ba, oa, ca, rfl, hBa, hla, hma, hxa⟩ := hu.pos hn.2
    obtain ⟨bb, ob, cb, rfl, hBb, hlb, hmb, hxb⟩ := hv.pos (by omega)
    obtain ⟨n, hnn⟩ : ∃ n, a.length = n := ⟨_, rfl⟩
    rw [← h3, hnn] at hxb hlb HV
    rw [hnn] at hxa hla hn HU
    rw [← h3, hnn]
    have hq : ((n : Int) != (n : Int)) = false := by simp
    by_cases hf : 0 ≤ f ∧ f < (n : Int)
    · obtain ⟨k, rfl⟩ : ∃ k : Nat, f = k := ⟨f.toNat, by omega⟩
      have hk : k < n := by omega
      have hk0 : ¬ (k : Int) < 0 := by omega
      have hkI : ¬ (n : Int) ≤ (k : Int) := by omega
      have HB : Hid (Nc.oldB a k b = decide (b.getD k 0 < a.getD k 0)) := show Nc.oldB a k b = _ by unfold Nc.oldB; rw [ht, if_pos rfl, hnn, if_pos hf]; rfl
      have HO : Hid (Nc.oldE a k b = 0) := show Nc.oldE a k b = 0 by unfold Nc.oldE; rw [ht, if_pos rfl, hnn, if_pos hf]
      have ca0 := hxa k hk
      have cb0 := hxb k hk
      have i0 : (0 : Int) ≤ (k : Int) := by omega
      have i1 : (k : Int) < (n : Int) := by omega
      clear hu hv ht h1 h2 h3 hxa hxb hnn hf
      generalize a.getD k 0 = x at *
      generalize b.getD k 0 = y at *
      go_enter Try.func19, Try.ntmps19
      go_wp2_with fail
      refine (right_any _ a _ HU.out).mono ?_
      rintro e w1 ⟨rfl, rfl⟩
      rw [H1.out]
      go_wp2_with fail
      refine (right_any _ b _ HV.out).mono ?_
      rintro e w1 ⟨rfl, rfl⟩
      rw [H2.out]
      go_wp2
      go_quiet (fail)
      go_wp2
      go_ret2
      rw [HB.out, HO.out]
      exact ⟨rfl, _, rfl⟩
    · have HB : Hid (Nc.oldB a f b = false) := show Nc.oldB a f b = false by unfold Nc.oldB; rw [ht, if_pos rfl, hnn, if_neg hf]
      have HO : Hid (Nc.oldE a f b = 1) := show Nc.oldE a f b = 1 by unfold Nc.oldE; rw [ht, if_pos rfl, hnn, if_neg hf]
      have hf' : f < 0 ∨ (¬ f < 0 ∧ (n : Int) ≤ f) := by omega
      clear hu hv ht h1 h2 h3 hxa hxb hnn hf
      rcases hf' with hf' | ⟨hf', hf2⟩
      all_goals
        go_enter Try.func19, Try.ntmps19
        go_wp2_with fail
        refine (right_any _ a _ HU.out).mono ?_
        rintro e w1 ⟨rfl, rfl⟩
        rw [H1.out]
        go_wp2_with fail
        refine (right_any _ b _ HV.out).mono ?_
        rintro e w1 ⟨rfl, rfl⟩
        rw [H2.out]
        go_wp2
        go_ret2
        rw [HB.out, HO.out]
        exact ⟨rfl, 0, rfl⟩
end Go.Proofs.Ytbjbfmdlkdiiaaa
