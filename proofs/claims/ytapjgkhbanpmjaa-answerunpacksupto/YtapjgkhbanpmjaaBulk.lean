/-
  What the bound of an upto statement gives for fields and for a string.
-/
import Derived.Test.YtapjgkhbanpmjaaRows
import Derived.Test.YtapjgkhbanpmjaaFields
import Derived.Test.YtapjgkhbanpmjaaPlainP
namespace Go.Proofs.Ytapjgkhbanpmjaa
open Go.ChangeShapes Go.WideShapes Go.ChangeAt Go.RowKit Go.Deep

theorem bulk_fields {H : Type} (l : List (Int × ByteArray)) : Rows.uptoBulkAll (l.map fun x => DataW.agg (H := H) [.lit (.int .i64 x.1), .lit (.string x.2.data.toList)]) = (Pl.encs l).length := by
  induction l with
  | nil => rfl
  | cons x l ih =>
    have e : (Pl.encs (x :: l)).length = (Pl.encOne x).length + (Pl.encs l).length := by simp [Pl.encs]
    rw [List.map_cons, Rows.uptoBulkAll, ih, e, Pl.encOne_length]
    simp only [Rows.uptoBulk, Rows.uptoBulkAll, Array.length_toList]
    have : x.2.data.size = x.2.size := rfl
    omega

theorem encs_ge (l : List (Int × ByteArray)) : 3 * l.length ≤ (Pl.encs l).length := by
  induction l with
  | nil => simp [Pl.encs]
  | cons x l ih =>
    have e : (Pl.encs (x :: l)).length = (Pl.encOne x).length + (Pl.encs l).length := by simp [Pl.encs]
    have := Pl.encOne_length x
    simp only [List.length_cons]
    omega

/-- What the bound gives of an argument that is a slice of fields. -/
theorem small_fields {H : Type} {d : DataW H} {r : List (DataW H)} {l sp : List (Int × ByteArray)}
    (hd : d = .nil ∧ l = [] ∨ d = .slice (l.map fun x => .agg [.lit (.int .i64 x.1), .lit (.string x.2.data.toList)]) (sp.map fun x => .agg [.lit (.int .i64 x.1), .lit (.string x.2.data.toList)]))
    (hk : Rows.uptoSmall H (d :: r) = true) : (Pl.encs l).length ≤ 1048576 := by
  have h : Rows.uptoBulkAll (d :: r) ≤ 1048576 := of_decide_eq_true hk
  rcases hd with ⟨_, rfl⟩ | rfl
  · exact Nat.zero_le _
  · simp only [Rows.uptoBulkAll, Rows.uptoBulk, bulk_fields] at h
    omega
theorem small_string {H : Type} {s : ByteArray} {r : List (DataW H)} (hk : Rows.uptoSmall H (.lit (.string s.data.toList) :: r) = true) : s.size ≤ 1048576 := by
  have h : Rows.uptoBulkAll (DataW.lit (H := H) (.string s.data.toList) :: r) ≤ 1048576 := of_decide_eq_true hk
  simp only [Rows.uptoBulkAll, Rows.uptoBulk] at h
  have e : s.data.toList.length = s.size := by rw [Array.length_toList]; rfl
  omega
end Go.Proofs.Ytapjgkhbanpmjaa
