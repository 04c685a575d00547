/-
  The small case that every statement of the layer asks: two names, of which one is removed.
-/
import Derived.Test.YtacghcoikekfeaaGreatFRem
namespace Go.Proofs.YtacghcoikekfeaaGreat
open Go.ChangeShapes Go.WideShapes Go.ChangeAt Go.RowKit Go.Deep
set_option maxRecDepth 100000
namespace Fo
abbrev sa : ByteArray := ⟨#[97]⟩
abbrev sb : ByteArray := ⟨#[98]⟩
abbrev ea : Ent := (sa, 1, 1, 1)
abbrev eb : Ent := (sb, 2, 1, 1)
theorem ok_a : Nm.ok sa := ⟨by decide, by decide, fun h => by simp [sa] at h, fun h => by simp [sa] at h, fun i h _ => by
  have : i = 0 := by simp [ByteArray.size] at h; exact h
  subst this
  exact ⟨by show (97 : UInt8).toNat ≠ 47; decide, by show (97 : UInt8).toNat ≠ 0; decide⟩⟩
theorem ok_b : Nm.ok sb := ⟨by decide, by decide, fun h => by simp [sb] at h, fun h => by simp [sb] at h, fun i h _ => by
  have : i = 0 := by simp [ByteArray.size] at h; exact h
  subst this
  exact ⟨by show (98 : UInt8).toNat ≠ 47; decide, by show (98 : UInt8).toNat ≠ 0; decide⟩⟩
theorem ho_one : Ho 1 1 := by decide
theorem right_0 : Right [] 0 := ⟨by decide, fun i h => by simp at h, List.nodup_nil⟩
theorem good_a (l : List Ent) (next : Int) (h : 1 ≤ next) : good next (ea :: l) 0 := fun x hx => by
  simp at hx
  subst hx
  exact ⟨ok_a, ⟨by simp [lastC], h⟩, ho_one⟩
theorem right_1 : Right [ea] 1 := ⟨by decide, fun i h => by
  have : i = 0 := by simp at h; exact h
  subst this
  exact good_a [] 1 (by decide), by simp [apart]⟩
theorem right_2 : Right [ea, eb] 2 := ⟨by decide, fun i h => by
  simp at h
  rcases (show i = 0 ∨ i = 1 by omega) with rfl | rfl
  · exact good_a _ 2 (by decide)
  · intro x hx
    simp at hx
    subst hx
    exact ⟨ok_b, ⟨by simp [lastC], by simp⟩, ho_one⟩, by simp [apart]⟩
theorem right_3 : Right [eb] 2 := ⟨by decide, fun i h => by
  have : i = 0 := by simp at h; exact h
  subst this
  intro x hx
  simp at hx
  subst hx
  exact ⟨ok_b, ⟨by simp [lastC], by simp⟩, ho_one⟩, by simp [apart]⟩
theorem ask_zero {l : List Ent} {next : Int} {s : ByteArray} (h : Right l next) (k : Nm.ok s) : ask l next s = 0 := (ask_right (err_ok h)).trans (Nm.err_ok k)
theorem aa : called sa ea = true := by simp [called]
theorem ab : called sa eb = false := by simp [called, ByteArray.toList_eq]
theorem ba : called sb ea = false := by simp [called, ByteArray.toList_eq]
theorem bb : called sb eb = true := by simp [called]
theorem add1 : addErr [] 0 sa 1 1 = 0 := add_ok (ask_zero right_0 ok_a) ho_one (at_miss fun j y h => by simp at h) (by decide)
theorem add2 : addErr [ea] 1 sb 1 1 = 0 := add_ok (ask_zero right_1 ok_b) ho_one (at_miss fun j y h hy => by
  have : j = 0 := by simp at h; exact h
  subst this
  simp at hy
  subst hy
  exact ba) (by decide)
theorem rem1 : findErr [ea, eb] 2 sa = 0 ∧ plc [ea, eb] 2 sa = (0 : Nat) := findErr_hit (ask_zero right_2 ok_a) (at_hit (x := ea) rfl aa fun j y h => by omega)
theorem find1 : findErr [eb] 2 sb = 0 ∧ plc [eb] 2 sb = (0 : Nat) := findErr_hit (ask_zero right_3 ok_b) (at_hit (x := eb) rfl bb fun j y h => by omega)
theorem find1' : found [eb] 2 sb = eb := found_hit find1.1 find1.2 rfl
theorem find2 : findErr [eb] 2 sa = 402 := (findErr_miss (ask_zero right_3 ok_a) (at_miss fun j y h hy => by
  have : j = 0 := by simp at h; exact h
  subst this
  simp at hy
  subst hy
  exact ab)).1
end Fo
theorem hand_cells (w : World) : (w.alloc (BHf 1 1)).cell? ⟨w.heap.size, 0, none⟩ = some (.int .i64 1) ∧ (w.alloc (BHf 1 1)).cell? ⟨w.heap.size, 1, none⟩ = some (.int .i64 1) := by
  have hh := heap_alloc_new w (BHf 1 1)
  constructor <;> simp only [World.cell?, hh] <;> rfl
theorem small (x : Ent) (l : List Ent) (h : x.1.size ≤ 32 ∧ ∀ y ∈ l, y.1.size ≤ 32) : ∀ y ∈ x :: l, y.1.size ≤ maxLen := fun y hy => by
  rcases List.mem_cons.1 hy with rfl | hy
  · exact Nat.le_trans h.1 (by decide)
  · exact Nat.le_trans (h.2 y hy) (by decide)
end Go.Proofs.YtacghcoikekfeaaGreat
