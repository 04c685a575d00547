/-
  Plain facts on texts in pieces. No program.
-/
import Derived.Test.YtceeafmahoelfaaDoorHBurst
namespace Go.Proofs.YtceeafmahoelfaaDoor
namespace Sh

structure Mf where
  op : Int
  size : Int
  sum : Int
structure Sd where
  op : Int
  number : Int
  data : ByteArray
  sum : Int
def cnt (n : Nat) : Nat := (n + 255) / 256
def psz (n : Nat) (k : Int) : Int := if 0 ≤ k ∧ k < cnt n then min 256 (n - k * 256) else 0
def okM (m : Mf) : Bool := decide ((0 ≤ m.op ∧ m.op ≤ 1099511627776) ∧ (1 ≤ m.size ∧ m.size ≤ 65535) ∧ 0 ≤ m.sum ∧ m.sum ≤ 4294967295)
def sum (t : ByteArray) : Nat := Pl.crc t.data.toList
def pc (t : ByteArray) (i : Nat) : ByteArray := t.extract (i * 256) (i * 256 + (psz t.size i).toNat)
def sd (op : Int) (t : ByteArray) (i : Nat) : Sd := ⟨op, i, pc t i, sum (pc t i)⟩
def sds (op : Int) (t : ByteArray) (k : Nat) : List Sd := (List.range k).map (sd op t)
theorem sum_lt (t : ByteArray) : sum t < 4294967296 := Pl.crc_lt _
theorem cnt_le {n : Nat} (h : n ≤ 65535) : cnt n ≤ 256 := by unfold cnt; omega
theorem cnt_pos {n : Nat} (h : 0 < n) : 0 < cnt n := by unfold cnt; omega
theorem psz_in {n k : Nat} (h : k < cnt n) : psz n k = min 256 ((n : Int) - (k : Int) * 256) := by unfold psz; rw [if_pos ⟨by omega, by omega⟩]
theorem psz_pos {n k : Nat} (h : k < cnt n) : 0 < psz n k ∧ psz n k ≤ 256 ∧ (k : Int) * 256 + psz n k ≤ n := by
  rw [psz_in h]
  unfold cnt at h
  omega
theorem psz_out {n : Nat} {k : Int} (h : ¬ (0 ≤ k ∧ k < cnt n)) : psz n k = 0 := by unfold psz; rw [if_neg h]
theorem psz_zero {n : Nat} {k : Int} : psz n k = 0 ↔ ¬ (0 ≤ k ∧ k < cnt n) := by
  refine ⟨fun h hk => ?_, psz_out⟩
  obtain ⟨j, rfl⟩ : ∃ j : Nat, k = j := ⟨k.toNat, by omega⟩
  have := psz_pos (n := n) (k := j) (by omega)
  omega
theorem sds_length (op : Int) (t : ByteArray) (k : Nat) : (sds op t k).length = k := by simp [sds]
theorem sds_succ (op : Int) (t : ByteArray) (k : Nat) : sds op t (k + 1) = sds op t k ++ [sd op t k] := by simp [sds, List.range_succ]
theorem sds_get {op : Int} {t : ByteArray} {k i : Nat} (h : i < k) : (sds op t k)[i]? = some (sd op t i) := by simp [sds, h]
theorem pc_size {t : ByteArray} {i : Nat} (h : i < cnt t.size) : ((pc t i).size : Int) = psz t.size i := by
  have := psz_pos h
  unfold pc
  rw [ByteArray.size_extract]
  omega
theorem extract_list (t : ByteArray) (a b : Nat) : (t.extract a b).data.toList = (t.data.toList.take b).drop a := by
  rw [ByteArray.data_extract, Array.toList_extract]
  simp [List.take_drop]
  by_cases h : a ≤ b
  · rw [show a + (b - a) = b from by omega]
  · rw [List.drop_eq_nil_of_le (by simp; omega), List.drop_eq_nil_of_le (by simp; omega)]
/-- The pieces, one behind the other. -/
def cat (f : Nat → ByteArray) (k : Nat) : List UInt8 := (List.range k).flatMap fun i => (f i).data.toList
theorem cat_succ (f : Nat → ByteArray) (k : Nat) : cat f (k + 1) = cat f k ++ (f k).data.toList := by simp [cat, List.range_succ]
theorem cat_congr {f g : Nat → ByteArray} {k : Nat} (h : ∀ i, i < k → f i = g i) : cat f k = cat g k := by
  unfold cat
  rw [List.flatMap_def, List.flatMap_def, List.map_congr_left (fun i hi => by rw [h i (by simpa using hi)])]
theorem cat_take (t : ByteArray) : ∀ k, k ≤ cnt t.size → cat (pc t) k = t.data.toList.take (k * 256)
  | 0, _ => by simp [cat]
  | k + 1, h => by
    rw [cat_succ, cat_take t k (by omega)]
    have hp := psz_in (n := t.size) (k := k) (by omega)
    have hp2 := psz_pos (n := t.size) (k := k) (by omega)
    unfold pc
    rw [extract_list]
    have hl : t.data.toList.length = t.size := by simp
    by_cases hq : (k + 1) * 256 ≤ t.size
    · rw [show (psz t.size k).toNat = 256 from by omega, show k * 256 + 256 = (k + 1) * 256 from by omega]
      conv => rhs; rw [← List.take_append_drop (k * 256) (t.data.toList.take ((k + 1) * 256))]
      rw [List.take_take, show min (k * 256) ((k + 1) * 256) = k * 256 from by omega]
    · rw [show k * 256 + (psz t.size k).toNat = t.size from by omega]
      rw [List.take_of_length_le (i := t.size) (by omega), List.take_of_length_le (i := (k + 1) * 256) (by omega), List.take_append_drop]
theorem cat_all (t : ByteArray) : cat (pc t) (cnt t.size) = t.data.toList := by
  rw [cat_take t _ (Nat.le_refl _), List.take_of_length_le]
  simp [cnt]
  omega
/-- The sum of pieces joined is the sum of all of them. -/
def jn (f : Nat → ByteArray) (k : Nat) : Nat := Pl.crc (cat f k)
theorem jn_succ (f : Nat → ByteArray) (k : Nat) : Pl.joinOf (jn f k) (sum (f k)) (f k).size = jn f (k + 1) := by
  unfold jn sum
  rw [cat_succ, ← Pl.join_crc]
  simp
theorem jn_lt (f : Nat → ByteArray) (k : Nat) : jn f k < 4294967296 := Pl.crc_lt _
/-- The numbers that are not there. -/
def mis (f : Nat → ByteArray) (k : Nat) : List Int := ((List.range k).filter fun i => decide ((f i).size = 0)).map fun i : Nat => (i : Int)
theorem mis_yes {f : Nat → ByteArray} {k : Nat} (h : (f k).size = 0) : mis f (k + 1) = mis f k ++ [(k : Int)] := by
  unfold mis
  rw [List.range_succ, List.filter_append, List.map_append, List.filter_cons, if_pos (by simpa using h)]
  rfl
theorem mis_no {f : Nat → ByteArray} {k : Nat} (h : ¬ (f k).size = 0) : mis f (k + 1) = mis f k := by
  unfold mis
  rw [List.range_succ, List.filter_append, List.map_append, List.filter_cons, if_neg (by simpa using h)]
  simp
theorem mis_len (f : Nat → ByteArray) (k : Nat) : (mis f k).length ≤ k := by
  unfold mis
  rw [List.length_map]
  exact Nat.le_trans (List.length_filter_le _ _) (by simp)
theorem mis_nil {f : Nat → ByteArray} {k : Nat} : (mis f k).length = 0 ↔ ∀ i, i < k → (f i).size ≠ 0 := by
  unfold mis
  rw [List.length_map, List.length_eq_zero_iff, List.filter_eq_nil_iff]
  simp
theorem mis_congr {f g : Nat → ByteArray} {k : Nat} (h : ∀ i, i < k → ((f i).size = 0 ↔ (g i).size = 0)) : mis f k = mis g k := by
  unfold mis
  congr 1
  refine List.filter_congr fun i hi => ?_
  rw [decide_eq_decide]
  exact h i (by simpa using hi)
/-- What adding answers, and what is there behind it. -/
def addE (m : Mf) (_f : Nat → ByteArray) (s : Sd) : Int :=
  if s.op = m.op then (if psz m.size.toNat s.number = 0 ∨ (s.data.size : Int) ≠ psz m.size.toNat s.number then 4 else if s.sum = sum s.data then 0 else 20) else 190
def addB (m : Mf) (f : Nat → ByteArray) (s : Sd) : Bool := decide (addE m f s = 0) && decide ((f s.number.toNat).size = 0)
def addF (m : Mf) (f : Nat → ByteArray) (s : Sd) (i : Nat) : ByteArray := if addB m f s then (if i = s.number.toNat then s.data else f i) else f i
/-- Pieces are of their sizes, or not there. -/
def Fit (m : Mf) (f : Nat → ByteArray) : Prop := ∀ i, (f i).size = 0 ∨ ((f i).size : Int) = psz m.size.toNat i
theorem addE_zero {m : Mf} {f : Nat → ByteArray} {s : Sd} (h : addE m f s = 0) : s.op = m.op ∧ psz m.size.toNat s.number ≠ 0 ∧ (s.data.size : Int) = psz m.size.toNat s.number ∧ s.sum = sum s.data := by
  unfold addE at h
  split at h
  · split at h
    · cases h
    · split at h
      · refine ⟨‹_›, ?_, ?_, ‹_›⟩ <;> omega
      · cases h
  · cases h
theorem Fit.none (m : Mf) : Fit m (fun _ => ⟨#[]⟩) := fun _ => .inl rfl
theorem Fit.add {m : Mf} {f : Nat → ByteArray} {s : Sd} (h : Fit m f) : Fit m (addF m f s) := by
  intro i
  unfold addF
  split
  · rename_i hb
    unfold addB at hb
    simp only [Bool.and_eq_true, decide_eq_true_eq] at hb
    obtain ⟨_, h2, h3, _⟩ := addE_zero hb.1
    split
    · rename_i hi
      subst hi
      right
      have hn := mt psz_zero.2 h2
      rw [h3, show ((s.number.toNat : Nat) : Int) = s.number from by omega]
    · exact h i
  · exact h i
theorem Fit.le {m : Mf} {f : Nat → ByteArray} (h : Fit m f) (i : Nat) : (f i).size ≤ 256 := by
  rcases h i with h | h
  · omega
  · by_cases hk : i < cnt m.size.toNat
    · have := psz_pos hk
      omega
    · rw [psz_out (by omega)] at h
      omega
/-- What the text is, and why there is none. -/
def txtE (m : Mf) (f : Nat → ByteArray) : Int := if (mis f (cnt m.size.toNat)).length = 0 then (if (jn f (cnt m.size.toNat) : Int) = m.sum then 0 else 20) else 7
def txt (m : Mf) (f : Nat → ByteArray) : ByteArray := if txtE m f = 0 then ⟨(cat f (cnt m.size.toNat)).toArray⟩ else ⟨#[]⟩
end Sh
end Go.Proofs.YtceeafmahoelfaaDoor
