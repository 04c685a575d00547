/-
  slices.Sort at []string, over a row of one's own.
-/
import Derived.Test.YtacghcoikekfeaaGreatRSo
import Derived.Test.YtacghcoikekfeaaGreatShelf
import Derived.Lib.RowBridge
import Derived.Lib.SortBridge
namespace Go.Proofs.YtacghcoikekfeaaGreat
open Go.RowKit Go.Shelf Go.Sort Go.Lib Go.Deep It
set_option maxRecDepth 100000
section
variable {α : Type} [Inhabited α] {enc : α → Value}
/-- The world behind a sort. -/
def sortW (enc : α → Value) (w : World) (g n : Nat) (d : Array α) (os : Array Obj) : World := grow (putRow enc (Sort.ahead w n) g 0 d) os
theorem holds_of_row {w : World} {g : Nat} {cur : Array Value} {e : TypeId} {ss : List α} (hb : w.heap[g]? = some (.cells cur e (0, 0))) (ht : cur.toList.take ss.length = ss.map enc) : Holds enc w g 0 ss.toArray := by
  intro j hj
  have hj' : j < ss.length := by simpa using hj
  refine ⟨?_, by simp [World.frozen?, hb]⟩
  have h1 : (cur.toList.take ss.length)[j]? = (ss.map enc)[j]? := by rw [ht]
  rw [List.getElem?_take_of_lt hj'] at h1
  simp only [World.cell?, hb, Nat.zero_add]
  simp only [Option.isSome_none, Bool.false_eq_true, if_false]
  rw [← Array.getElem?_toList, h1]
  simp [hj']
theorem sorted_heap {w : World} {g n : Nat} {os : Array Obj} {cur : Array Value} {e : TypeId} {fr : Nat × Nat} (d : Array α) (hb : w.heap[g]? = some (.cells cur e fr)) :
    (sortW enc w g n d os).heap[g]? = some (.cells (putCells enc 0 d cur) e fr) := by
  have hg : g < w.heap.size := (Array.getElem?_eq_some_iff.1 hb).1
  unfold sortW
  rw [heap_grow_old _ _ (by simpa using hg)]
  simp [putRow, mapBlock, Sort.ahead, Array.getElem?_modify, hb, onCells]
theorem sorted_grown {w : World} {g n : Nat} {os : Array Obj} (d : Array α) : w.grownBy (sortW enc w g n d os) (some g) := by
  unfold sortW
  refine ⟨rfl, rfl, rfl, by simp, fun k hk hne => ?_⟩
  rw [heap_grow_old _ _ (by simpa using hk)]
  have : g ≠ k := fun e => hne (by rw [e])
  simp [putRow, mapBlock, Sort.ahead, Array.getElem?_modify, this]
theorem put_take (cur : Array Value) (ts : List α) (h : ts.length ≤ cur.size) : (putCells enc 0 ts.toArray cur).toList.take ts.length = ts.map enc := by
  apply List.ext_getElem?
  intro j
  by_cases hj : j < ts.length
  · rw [List.getElem?_take_of_lt hj, Array.getElem?_toList]
    simp [putCells, hj, show j < cur.size by omega]
  · rw [List.getElem?_take_eq_none (by omega), List.getElem?_eq_none (by simp; omega)]
end
/-- Texts, sorted. -/
def Sp.sortT (l : List ByteArray) : List ByteArray := ((l.map fun s => s.data.toList).mergeSort fun x y => decide (x ≤ y)).map fun x => ⟨x.toArray⟩
theorem flatT : ∀ l : List ByteArray, ETx.flat l = l.map Value.string
  | [] => rfl
  | x :: l => by
    have e : ETx.flat (x :: l) = .string x :: ETx.flat l := by simp [Enc.flat, ETx]
    rw [e, flatT l]
    rfl
theorem sort_row (g cap n : Nat) (l : List ByteArray) (w : World) (B : Nat) (h : Row ETx w B 9 (.slice (some ⟨g, 0, none⟩) n cap) l) (hm : l.length ≤ 100000) :
    Calls Tryz.prog 41 #[.slice (some ⟨g, 0, none⟩) n cap] w fun e w' => e = .returned (.tuple #[]) ∧ Row ETx w' B 9 (.slice (some ⟨g, 0, none⟩) n cap) (Sp.sortT l) ∧ w.grownBy w' (some g) := by
  rcases h with ⟨hv, _⟩ | ⟨g', cap', cur, hv, hbg, hg, hnc, hcm, hcs, htake⟩
  · cases hv
  · simp only [Value.slice.injEq, Option.some.injEq, Addr.mk.injEq, and_true] at hv
    obtain ⟨rfl, rfl, rfl⟩ := hv
    have hsz : ETx.sz = 1 := rfl
    rw [hsz, Nat.mul_one, flatT] at htake
    rw [hsz, Nat.mul_one] at hcs
    have hmap : l.map Value.string = (l.map fun s => s.data.toList).map encStr := by
      rw [List.map_map]
      refine List.map_congr_left fun s _ => ?_
      simp [encStr]
    have h2 := AnyM.slices_Sort_string Lay.sortL g 0 cap (l.map fun s => s.data.toList) w (holds_of_row hg (by rw [List.length_map, htake, hmap])) (Array.getElem?_eq_some_iff.1 hg).1 (by rw [List.length_map]; omega)
    rw [List.length_map] at h2
    refine Calls.mono h2 ?_
    rintro e w' ⟨he, n, os, rfl⟩
    rw [show grow (putRow encStr (Sort.ahead w n) g 0 ((l.map fun s => s.data.toList).mergeSort fun x y => decide (x ≤ y)).toArray) os = sortW encStr w g n ((l.map fun s => s.data.toList).mergeSort fun x y => decide (x ≤ y)).toArray os from rfl]
    refine ⟨he, ?_, sorted_grown _⟩
    have hlen : (Sp.sortT l).length = l.length := by simp [Sp.sortT, List.length_mergeSort]
    refine .inr ⟨g, cap, _, by rw [hlen], hbg, sorted_heap _ hg, by rw [hlen]; exact hnc, hcm, by rw [hsz, Nat.mul_one]; simpa [putCells] using hcs, ?_⟩
    rw [hsz, Nat.mul_one, flatT]
    have h3 := put_take (enc := encStr) cur ((l.map fun s => s.data.toList).mergeSort fun x y => decide (x ≤ y)) (by rw [List.length_mergeSort, List.length_map]; omega)
    rw [hlen]
    rw [List.length_mergeSort, List.length_map] at h3
    rw [h3]
    unfold Sp.sortT
    rw [List.map_map]
    rfl
end Go.Proofs.YtacghcoikekfeaaGreat
