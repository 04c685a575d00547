/-
  Plain facts on a text of which some pieces are there. No program.
-/
import Derived.Test.YtceeafmahoelfaaDoorHSplit
namespace Go.Proofs.YtceeafmahoelfaaDoor
namespace Sh

/-- The pieces of which h says yes. -/
def part (t : ByteArray) (h : Nat → Bool) (i : Nat) : ByteArray := if (h i && decide (i < cnt t.size)) = true then pc t i else ⟨#[]⟩
def mf (op : Int) (t : ByteArray) : Mf := ⟨op, t.size, sum t⟩
theorem mf_ok {op : Int} {t : ByteArray} (h1 : 0 ≤ op ∧ op ≤ 1099511627776) (h2 : 1 ≤ t.size ∧ t.size ≤ 65535) : okM (mf op t) = true := by
  have := sum_lt t
  unfold okM mf
  simp only [decide_eq_true_eq]
  omega
theorem mf_size (op : Int) (t : ByteArray) : (mf op t).size.toNat = t.size := by simp [mf]
theorem pc_pos {t : ByteArray} {i : Nat} (h : i < cnt t.size) : (pc t i).size ≠ 0 := by
  have := pc_size h
  have := psz_pos h
  omega
theorem part_le (t : ByteArray) (h : Nat → Bool) (i : Nat) : (part t h i).size ≤ 256 := by
  unfold part
  split
  · rename_i hh
    simp at hh
    have := pc_size hh.2
    have := psz_pos hh.2
    omega
  · simp [ByteArray.size]
theorem part_zero {t : ByteArray} {h : Nat → Bool} {i : Nat} (hi : i < cnt t.size) : (part t h i).size = 0 ↔ h i = false := by
  unfold part
  cases hh : h i with
  | false => exact ⟨fun _ => rfl, fun _ => rfl⟩
  | true =>
    rw [if_pos (by simp [hi])]
    exact ⟨fun h0 => absurd h0 (pc_pos hi), fun h0 => by cases h0⟩
theorem addE_part {op : Int} {t : ByteArray} {f : Nat → ByteArray} {i : Nat} (hi : i < cnt t.size) : addE (mf op t) f (sd op t i) = 0 := by
  have h1 := pc_size hi
  have h2 := psz_pos hi
  unfold addE
  rw [mf_size]
  show (if op = op then (if psz t.size (i : Int) = 0 ∨ ((pc t i).size : Int) ≠ psz t.size (i : Int) then (4 : Int) else if (sum (pc t i) : Int) = (sum (pc t i) : Int) then 0 else 20) else 190) = 0
  rw [if_pos rfl, if_neg (by omega), if_pos rfl]
theorem addB_part {op : Int} {t : ByteArray} {h : Nat → Bool} {i : Nat} (hi : i < cnt t.size) : addB (mf op t) (part t h) (sd op t i) = !h i := by
  unfold addB
  rw [addE_part hi]
  show (decide (0 = 0) && decide ((part t h (i : Int).toNat).size = 0)) = !h i
  rw [Int.toNat_natCast, show decide ((part t h i).size = 0) = decide (h i = false) from decide_eq_decide.2 (part_zero hi)]
  cases h i <;> rfl
theorem addF_part {op : Int} {t : ByteArray} {h : Nat → Bool} {i : Nat} (hi : i < cnt t.size) : addF (mf op t) (part t h) (sd op t i) = part t (fun j => h j || decide (j = i)) := by
  funext j
  unfold addF
  rw [addB_part hi]
  show (if (!h i) = true then (if j = (i : Int).toNat then pc t i else part t h j) else part t h j) = _
  rw [Int.toNat_natCast]
  unfold part
  by_cases e : j = i
  · subst e
    cases hh : h j <;> simp [hi]
  · cases hh : h i <;> simp [e]
theorem gap_part {t : ByteArray} {h : Nat → Bool} : (mis (part t h) (cnt t.size)).length = 0 ↔ ∀ i, i < cnt t.size → h i = true := by
  rw [mis_nil]
  refine forall_congr' fun i => imp_congr_right fun hi => ?_
  rw [Ne, part_zero hi]
  simp
theorem txt_full {op : Int} {t : ByteArray} {h : Nat → Bool} (hf : ∀ i, i < cnt t.size → h i = true) : txtE (mf op t) (part t h) = 0 ∧ txt (mf op t) (part t h) = t := by
  have hc : cat (part t h) (cnt t.size) = t.data.toList := by
    rw [← cat_all t]
    exact cat_congr fun i hi => by unfold part; rw [hf i hi]; simp [hi]
  have hE : txtE (mf op t) (part t h) = 0 := by
    unfold txtE
    rw [mf_size, if_pos (gap_part.2 hf), if_pos]
    unfold jn
    rw [hc]
    rfl
  refine ⟨hE, ?_⟩
  unfold txt
  rw [if_pos hE, mf_size, hc]
theorem txt_gap {op : Int} {t : ByteArray} {h : Nat → Bool} {i : Nat} (hi : i < cnt t.size) (hh : h i = false) : txtE (mf op t) (part t h) = 7 := by
  unfold txtE
  rw [mf_size, if_neg]
  rw [gap_part]
  intro hf
  rw [hf i hi] at hh
  cases hh
end Sh
end Go.Proofs.YtceeafmahoelfaaDoor
