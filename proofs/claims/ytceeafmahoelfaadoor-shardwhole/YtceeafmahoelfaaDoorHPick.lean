/-
  Plain facts on texts whose pieces are picked from two; slices of bools that came in.
-/
import Derived.Test.YtceeafmahoelfaaDoorHLaw
namespace Go.Proofs.YtceeafmahoelfaaDoor
open Go.ChangeShapes Go.WideShapes Go.ChangeAt Go.RowKit

namespace Sh
theorem full_len {t : ByteArray} {f : Nat → ByteArray} : ∀ k, (∀ j, j < k → (f j).size = (pc t j).size) → (cat f k).length = (cat (pc t) k).length
  | 0, _ => rfl
  | k + 1, h => by
    rw [cat_succ, cat_succ, List.length_append, List.length_append, full_len k (fun j hj => h j (by omega))]
    have := h k (by omega)
    simp [this]
theorem full_gap {t : ByteArray} {f : Nat → ByteArray} (h : ∀ j, j < cnt t.size → (f j).size = (pc t j).size) : (mis f (cnt t.size)).length = 0 := by
  rw [mis_nil]
  intro i hi
  rw [h i hi]
  exact pc_pos hi
/-- What is told of pieces of the right sizes. -/
theorem full_txt {op : Int} {t : ByteArray} {f : Nat → ByteArray} (h : ∀ j, j < cnt t.size → (f j).size = (pc t j).size) : (txtE (mf op t) f = 20 ∧ txt (mf op t) f = ⟨#[]⟩) ∨ (txtE (mf op t) f = 0 ∧ (txt (mf op t) f).size = t.size) := by
  have hg := full_gap h
  have hE : txtE (mf op t) f = if (jn f (cnt t.size) : Int) = (sum t : Int) then 0 else 20 := by
    unfold txtE
    rw [mf_size, if_pos hg]
    rfl
  by_cases hj : (jn f (cnt t.size) : Int) = (sum t : Int)
  · rw [if_pos hj] at hE
    refine .inr ⟨hE, ?_⟩
    unfold txt
    rw [if_pos hE, mf_size]
    show (cat f (cnt t.size)).toArray.size = t.size
    rw [List.size_toArray, full_len _ h, cat_all]
    simp
  · rw [if_neg hj] at hE
    refine .inl ⟨hE, ?_⟩
    unfold txt
    rw [if_neg (by rw [hE]; decide)]
theorem same_txt {op : Int} {t : ByteArray} {f : Nat → ByteArray} (h : ∀ j, j < cnt t.size → f j = pc t j) : txtE (mf op t) f = 0 ∧ txt (mf op t) f = t := by
  have hc : cat f (cnt t.size) = t.data.toList := by rw [← cat_all t]; exact cat_congr h
  have hE : txtE (mf op t) f = 0 := by
    unfold txtE
    rw [mf_size, if_pos (full_gap fun j hj => by rw [h j hj]), if_pos]
    unfold jn
    rw [hc]
    rfl
  refine ⟨hE, ?_⟩
  unfold txt
  rw [if_pos hE, mf_size, hc]
/-- A shard of the right size and sum is new where there is none. -/
theorem add_pick {op : Int} {t u : ByteArray} {f : Nat → ByteArray} {i : Nat} (hi : i < cnt t.size) (hs : (pc u i).size = (pc t i).size) (h0 : f i = ⟨#[]⟩) : addE (mf op t) f (sd op u i) = 0 ∧ addB (mf op t) f (sd op u i) = true ∧ ∀ j, addF (mf op t) f (sd op u i) j = if j = i then pc u i else f j := by
  have h1 := pc_size hi
  have h2 := psz_pos hi
  have hE : addE (mf op t) f (sd op u i) = 0 := by
    unfold addE
    rw [mf_size]
    show (if op = op then (if psz t.size (i : Int) = 0 ∨ ((pc u i).size : Int) ≠ psz t.size (i : Int) then (4 : Int) else if (sum (pc u i) : Int) = (sum (pc u i) : Int) then 0 else 20) else 190) = 0
    rw [if_pos rfl, if_neg (by omega), if_pos rfl]
  have hB : addB (mf op t) f (sd op u i) = true := by
    unfold addB
    rw [hE]
    show (decide (0 = 0) && decide ((f (i : Int).toNat).size = 0)) = true
    rw [Int.toNat_natCast, h0]
    rfl
  refine ⟨hE, hB, fun j => ?_⟩
  unfold addF
  rw [hB]
  show (if true = true then (if j = (i : Int).toNat then pc u i else f j) else f j) = _
  rw [Int.toNat_natCast, if_pos rfl]
theorem toListEq2 (s : ByteArray) : s.toList = s.data.toList := ByteArray.toList_eq ..
theorem ne_dec (x y : ByteArray) : (x.toList != y.toList) = decide (x ≠ y) := by
  rw [toListEq2, toListEq2]
  by_cases h : x = y
  · subst h
    simp
  · rw [decide_eq_true h, bne_iff_ne]
    intro e
    apply h
    cases x
    cases y
    simp only at e
    congr 1
    exact Array.toList_inj.1 e
end Sh
/-- How a bool lies in cells. -/
def BE : Enc Bool where
  sz := 1
  cells x := [.bool x]
  len _ := rfl
  one x u hu := by
    simp only [List.mem_cons, List.not_mem_nil, or_false] at hu
    rw [hu]
    rfl
theorem open_picks {H : Type} {enc : TypeId × Value → H} {w : World} {v : Value} {d : DataW H} {p : List MemPlace} (hv : ∃ a len cap, v = .slice a len cap) (h : DataW.Trod enc Tryd.prog w 0 (fun _ => true) true 60 v d p) : ∃ l, AtW BE w v l := by
  obtain ⟨a, len, cap, rfl⟩ := hv
  obtain ⟨fuel, hf⟩ := h
  obtain ⟨l, h1, h2⟩ := open_row BE Tryd.underlying60 (by kernel_rfl) (by decide) (Q := fun _ _ => True) (fun n cs d pl hl h => by
    obtain ⟨b, e, _⟩ := DataW.trod_bool Tryd.underlying4 h
    exact ⟨b, e, trivial⟩) (by simpa [Value.cells] using hf)
  exact ⟨l, h1⟩
end Go.Proofs.YtceeafmahoelfaaDoor
