/-
  The document's Number, Named and Value: what they answer.
-/
import Derived.Test.YtapjgkhbanpmjaaRUnpack
import Derived.Test.YtapjgkhbanpmjaaRefUnpack
namespace Go.Proofs.Ytapjgkhbanpmjaa
open Go.ChangeShapes Go.WideShapes Go.ChangeAt Go.RowKit Go.Deep
open Ak

theorem rnumber_s (s : ByteArray) (w : World) (hs : s.size ≤ maxLen) : Calls Try.prog 32 #[.string s] w fun e w' => e = .returned (.int .i64 (Pl.numVal s)) ∧ w' = w := by
  have HS : Hid (s.size ≤ maxLen) := hs
  clear hs
  go_enter Try.func32, Try.ntmps32
  go_wp2_with fail
  refine (refNumber_any s _ HS.out).mono ?_
  rintro e w1 ⟨rfl, rfl⟩
  go_wp2
  go_ret
  exact ⟨rfl, rfl⟩
set_option maxRecDepth 100000 in
set_option maxHeartbeats 1000000 in
theorem rnamed_any (S : ByteArray) (w : World) : Calls Try.prog 33 #[.string S] w fun e w' => e = .returned (VH (hno S) (hgen S)) ∧ Below w.heap.size w w' := by
  by_cases h7 : S.size = 7
  · have HE : Hid ((S.extract 0 1).size ≤ maxLen ∧ (S.extract 1 7).size ≤ maxLen) := ⟨by rw [ByteArray.size_extract]; unfold maxLen; omega, by rw [ByteArray.size_extract]; unfold maxLen; omega⟩
    have HU : Hid (hno S = Pl.numVal (S.extract 0 1) ∧ hgen S = Pl.numVal (S.extract 1 7)) := ⟨by unfold hno; rw [if_pos h7], by unfold hgen; rw [if_pos h7]⟩
    go_enter Try.func33, Try.ntmps33
    go_wp2
    go_region_held3 (fun _ => True) (trivial) (first
      | (go_at_call_of 32 (Value.string (S.extract 0 1)); refine (rnumber_s _ _ HE.out.1).mono ?_; rintro e w1 ⟨rfl, rfl⟩)
      | (go_at_call_of 32 (Value.string (S.extract 1 7)); refine (rnumber_s _ _ HE.out.2).mono ?_; rintro e w1 ⟨rfl, rfl⟩))
    all_goals
      generalize Pl.numVal (S.extract 0 1) = k at HU ⊢
      generalize Pl.numVal (S.extract 1 7) = l at HU ⊢
      go_wp2
      refine bodyPost_ret (v := VH k l) (by simp [results, Try.results33, go_sem]) rfl ⟨?_, ?_⟩
      · rw [HU.out.1, HU.out.2]
      · first | exact ((Below.refl _ _).alloc (Nat.le_refl _) _).drew | exact ((Below.refl _ _).drew).alloc (Nat.le_refl _) _
  · have H : Hid (hno S = 0 ∧ hgen S = 0) := ⟨by unfold hno; rw [if_neg h7], by unfold hgen; rw [if_neg h7]⟩
    have h7' : ((S.size : Int) != 7) = true := by simp; omega
    clear h7
    rw [H.out.1, H.out.2]
    go_enter Try.func33, Try.ntmps33
    go_wp2
    exact bodyPost_ret (v := VH 0 0) (by simp [results, Try.results33, go_sem]) rfl ⟨rfl, (Below.refl _ _).alloc (Nat.le_refl _) _⟩
theorem lastOf_take {l : List (Int × ByteArray)} {k : Nat} (h : k < l.length) (t : Int) : lastOf (l.take (k + 1)) t = if (l.getD k (0, .empty)).1 = t then (l.getD k (0, .empty)).2 else lastOf (l.take k) t := by
  rw [List.take_succ_eq_append_getElem h, lastOf_snoc]
  simp [List.getD, h]
set_option maxRecDepth 100000 in
set_option maxHeartbeats 1000000 in
theorem value_any (v : Value) (l : List (Int × ByteArray)) (t : Int) (w : World) (hv : FieldsAt w.heap.size w v l) : Calls Try.prog 31 #[v, .int .i64 t] w fun e w' => e = .returned (.string (lastOf l t)) ∧ Below w.heap.size w w' := by
  obtain ⟨ao, cap, rfl, hm, hx⟩ := hv.open
  clear hv
  unfold maxLen at hm
  obtain ⟨n, hn⟩ : ∃ n, l.length = n := ⟨_, rfl⟩
  rw [hn] at hm hx ⊢
  have HN : Hid (l.length = n) := hn
  have HX : Hid (∀ i, i < n → ∃ b off, ao = some ⟨b, off, none⟩ ∧ b < w.heap.size ∧ w.cell? ⟨b, off + i * 2, none⟩ = some (.int .i64 (l.getD i (0, .empty)).1) ∧ w.cell? ⟨b, off + i * 2 + 1, none⟩ = some (.string (l.getD i (0, .empty)).2)) := hx
  clear hn hx
  go_enter Try.func31, Try.ntmps31
  go_wp2
  go_loopw [5, 10] (fun s i wr => ∃ k : Nat, k ≤ n ∧ i = .int .i64 k ∧ s = .string (lastOf (l.take k) t) ∧ Hid (Below w.heap.size w wr)) (fun _ i _ => n - (intOf i).toNat)
  case atStart => exact ⟨0, Nat.zero_le _, rfl, rfl, Below.refl _ _⟩
  case round =>
    obtain ⟨k, hk, rfl, rfl, HB⟩ := hrel
    have hsz := HB.out.size
    by_cases hlt : k < n
    · obtain ⟨b, off, rfl, hB, x0, x1⟩ := HX.out k hlt
      rw [← HB.out.cell (p := ⟨b, off + k * 2, none⟩) hB] at x0
      rw [← HB.out.cell (p := ⟨b, off + k * 2 + 1, none⟩) hB] at x1
      have HV : Hid (lastOf (l.take (k + 1)) t = if (l.getD k (0, .empty)).1 = t then (l.getD k (0, .empty)).2 else lastOf (l.take k) t) := lastOf_take (by rw [HN.out]; exact hlt) t
      generalize l.getD k (0, .empty) = f at *
      obtain ⟨u, y⟩ := f
      generalize lastOf (l.take k) t = z at *
      by_cases hu : u = t
      · subst hu
        go_wp2
        go_roundw
        case rel => exact ⟨k + 1, by omega, by go_num, by rw [HV.out, if_pos rfl], HB.out.alloc hsz _⟩
        case measure => simp [intOf]; omega
      · have hu' : (u == t) = false := by simpa using hu
        go_wp2
        go_roundw
        case rel => exact ⟨k + 1, by omega, by go_num, by rw [HV.out, if_neg hu], HB.out.alloc hsz _⟩
        case measure => simp [intOf]; omega
    · obtain rfl : k = n := by omega
      have HV : Hid (lastOf (l.take k) t = lastOf l t) := by show lastOf (l.take k) t = _; rw [List.take_of_length_le (by rw [HN.out]; exact Nat.le_refl _)]
      rw [HV.out]
      go_wp2
      go_ret
      exact ⟨rfl, HB.out⟩
theorem lastOf_small {l : List (Int × ByteArray)} (h : ∀ x ∈ l, x.2.size ≤ 65535) (t : Int) : (lastOf l t).size ≤ 65535 := by
  induction l using rev_ind with
  | h0 => exact Nat.zero_le _
  | h1 l x ih =>
    rw [lastOf_snoc]
    split
    · exact h x (by simp)
    · exact ih fun y hy => h y (by simp [hy])
end Go.Proofs.Ytapjgkhbanpmjaa
