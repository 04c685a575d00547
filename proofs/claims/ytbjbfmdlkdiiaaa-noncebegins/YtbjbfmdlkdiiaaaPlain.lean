/-
  Plain facts on vectors of nonces. No program.
-/
import Derived.WalkKit
namespace Go.Proofs.Ytbjbfmdlkdiiaaa
namespace Nc

def isC (n : Nat) : Bool := decide (n = 1 ∨ n = 3 ∨ n = 5 ∨ n = 7)
def fit (x : Int) : Bool := decide (0 ≤ x ∧ x ≤ 1099511627776)
def vec (l : List Int) : Bool := l.all fit && isC l.length
def two (a b : List Int) : Bool := (vec a && vec b) && decide (a.length = b.length)
def mx (a b : List Int) (k : Nat) : List Int := (List.range k).map fun i => max (a.getD i 0) (b.getD i 0)
def grew (a b : List Int) (k : Nat) : List Int := ((List.range k).filter fun i => decide (a.getD i 0 < b.getD i 0)).map fun i : Nat => (i : Int)
def cov (a b : List Int) (k : Nat) : Bool := (List.range k).all fun i => decide (b.getD i 0 ≤ a.getD i 0)
def ini (j : Int) (x : Int) (n : Nat) : List Int := (List.range n).map fun i : Nat => if (i : Int) = j then x else 0

theorem isC_le {n : Nat} (h : isC n = true) : n ≤ 7 ∧ 0 < n := by simp [isC] at h; omega
theorem vec_iff {l : List Int} : vec l = true ↔ (∀ i, i < l.length → fit (l.getD i 0) = true) ∧ isC l.length = true := by
  unfold vec
  rw [Bool.and_eq_true, List.all_eq_true]
  refine and_congr_left fun _ => ⟨fun h i hi => h _ ?_, fun h x hx => ?_⟩
  · simp [List.getD, hi]
  · obtain ⟨i, hi, rfl⟩ := List.getElem_of_mem hx
    have := h i hi
    simpa [List.getD, hi] using this
theorem two_iff {a b : List Int} : two a b = true ↔ vec a = true ∧ vec b = true ∧ a.length = b.length := by
  unfold two
  simp [and_assoc]
theorem two_comm (a b : List Int) : two a b = two b a := by
  rw [Bool.eq_iff_iff, two_iff, two_iff]
  constructor <;> (rintro ⟨h1, h2, h3⟩; exact ⟨h2, h1, h3.symm⟩)
theorem mx_length (a b : List Int) (k : Nat) : (mx a b k).length = k := by simp [mx]
theorem mx_succ (a b : List Int) (k : Nat) : mx a b (k + 1) = mx a b k ++ [max (a.getD k 0) (b.getD k 0)] := by simp [mx, List.range_succ]
theorem mx_getD {a b : List Int} {k i : Nat} (h : i < k) : (mx a b k).getD i 0 = max (a.getD i 0) (b.getD i 0) := by simp [mx, List.getD, h]
theorem grew_yes {a b : List Int} {k : Nat} (h : a.getD k 0 < b.getD k 0) : grew a b (k + 1) = grew a b k ++ [(k : Int)] := by
  unfold grew
  rw [List.range_succ, List.filter_append, List.map_append, List.filter_cons, if_pos (by simpa using h)]
  rfl
theorem grew_no {a b : List Int} {k : Nat} (h : ¬ a.getD k 0 < b.getD k 0) : grew a b (k + 1) = grew a b k := by
  unfold grew
  rw [List.range_succ, List.filter_append, List.map_append, List.filter_cons, if_neg (by simpa using h)]
  simp
theorem grew_len (a b : List Int) (k : Nat) : (grew a b k).length ≤ k := by
  unfold grew
  rw [List.length_map]
  exact Nat.le_trans (List.length_filter_le _ _) (by simp)
theorem cov_succ (a b : List Int) (k : Nat) : cov a b (k + 1) = (cov a b k && decide (b.getD k 0 ≤ a.getD k 0)) := by simp [cov, List.range_succ]
theorem cov_iff {a b : List Int} {k : Nat} : cov a b k = true ↔ ∀ i, i < k → b.getD i 0 ≤ a.getD i 0 := by simp [cov]
theorem cov_false {a b : List Int} {k i : Nat} (hi : i < k) (h : a.getD i 0 < b.getD i 0) : cov a b k = false := by
  rw [← Bool.not_eq_true, cov_iff]
  intro h2
  have := h2 i hi
  omega
theorem cov_grew (a b : List Int) (k : Nat) : cov a b k = decide ((grew a b k).length = 0) := by
  induction k with
  | zero => simp [cov, grew]
  | succ k ih =>
    by_cases h : a.getD k 0 < b.getD k 0
    · rw [grew_yes h, cov_false (Nat.lt_succ_self k) h]
      simp
    · rw [grew_no h, cov_succ, ih]
      have : b.getD k 0 ≤ a.getD k 0 := by omega
      rw [decide_eq_true this, Bool.and_true]
theorem mx_comm (a b : List Int) (k : Nat) : mx a b k = mx b a k := by
  unfold mx
  refine List.map_congr_left fun i _ => Int.max_comm _ _
theorem mx_fit {a b : List Int} {k : Nat} (ha : ∀ i, i < k → fit (a.getD i 0) = true) (hb : ∀ i, i < k → fit (b.getD i 0) = true) : ∀ i, i < k → fit ((mx a b k).getD i 0) = true := by
  intro i hi
  rw [mx_getD hi]
  have h1 := ha i hi
  have h2 := hb i hi
  simp [fit] at h1 h2 ⊢
  omega
theorem mx_vec {a b : List Int} (h : two a b = true) : vec (mx a b a.length) = true := by
  obtain ⟨h1, h2, h3⟩ := two_iff.1 h
  rw [vec_iff] at h1 h2 ⊢
  rw [mx_length]
  exact ⟨mx_fit h1.1 (by rw [h3]; exact h2.1), h1.2⟩
theorem two_mx_b {a b : List Int} (h : two a b = true) : two (mx a b a.length) b = true := by
  obtain ⟨h1, h2, h3⟩ := two_iff.1 h
  exact two_iff.2 ⟨mx_vec h, h2, by rw [mx_length]; exact h3⟩
theorem two_mx_a {a b : List Int} (h : two a b = true) : two (mx a b a.length) a = true := by
  obtain ⟨h1, h2, h3⟩ := two_iff.1 h
  exact two_iff.2 ⟨mx_vec h, h1, by rw [mx_length]⟩
theorem mx_again {a b : List Int} {n : Nat} : mx (mx a b n) b n = mx a b n := by
  apply List.map_congr_left
  intro i hi
  rw [mx_getD (by simpa using hi)]
  omega
theorem grew_again {a b : List Int} {n : Nat} : grew (mx a b n) b n = [] := by
  unfold grew
  rw [List.map_eq_nil_iff, List.filter_eq_nil_iff]
  intro i hi
  rw [mx_getD (by simpa using hi)]
  simp
  omega
theorem cov_mx_a {a b : List Int} {n : Nat} : cov (mx a b n) a n = true := by
  rw [cov_iff]
  intro i hi
  rw [mx_getD hi]
  omega
theorem cov_mx_b {a b : List Int} {n : Nat} : cov (mx a b n) b n = true := by
  rw [cov_iff]
  intro i hi
  rw [mx_getD hi]
  omega
theorem cov_mx {a b c : List Int} {n : Nat} : cov c (mx a b n) n = (cov c a n && cov c b n) := by
  rw [Bool.eq_iff_iff, Bool.and_eq_true, cov_iff, cov_iff, cov_iff]
  constructor
  · intro h
    refine ⟨fun i hi => ?_, fun i hi => ?_⟩
    all_goals
      have := h i hi
      rw [mx_getD hi] at this
      omega
  · rintro ⟨h1, h2⟩ i hi
    have := h1 i hi
    have := h2 i hi
    rw [mx_getD hi]
    omega
theorem two_c {a b c : List Int} (h : two a b = true) : two c a = two c b ∧ two c (mx a b a.length) = two c a := by
  obtain ⟨h1, h2, h3⟩ := two_iff.1 h
  have h4 := mx_vec h
  unfold two
  rw [h1, h2, h4, mx_length, h3]
  exact ⟨rfl, rfl⟩
theorem ini_length (j x : Int) (n : Nat) : (ini j x n).length = n := by simp [ini]
theorem ini_succ (j x : Int) (k : Nat) : ini j x (k + 1) = ini j x k ++ [if (k : Int) = j then x else 0] := by simp [ini, List.range_succ]
end Nc
end Go.Proofs.Ytbjbfmdlkdiiaaa
