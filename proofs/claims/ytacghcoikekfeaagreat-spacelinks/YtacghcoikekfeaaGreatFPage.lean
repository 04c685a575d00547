/-
  slices.Clone, folder.Page: what they answer.
-/
import Derived.Test.YtacghcoikekfeaaGreatFTwo
import Derived.Lib.LazyBuf
namespace Go.Proofs.YtacghcoikekfeaaGreat
open Go.ChangeShapes Go.WideShapes Go.ChangeAt Go.RowKit Go.Deep
set_option maxRecDepth 100000
namespace Fo
noncomputable def pageErr (l : List Ent) (next c n : Int) : Int := if err l next = 0 then (if 0 ≤ c ∧ (1 ≤ n ∧ n ≤ 64) then 0 else 1) else 4
noncomputable def page (l : List Ent) (next c n : Int) : List Ent := if pageErr l next c n = 0 ∧ 0 ≤ at' (past c) l then (l.drop (at' (past c) l).toNat).take n.toNat else []
theorem page_no {l : List Ent} {next c n e : Int} (h : pageErr l next c n = e) (he : e ≠ 0) : page l next c n = [] := by unfold page; rw [if_neg (fun k => he (h.symm.trans k.1))]
theorem page_miss {l : List Ent} {next c n : Int} (h : at' (past c) l = -1) : page l next c n = [] := by unfold page; rw [if_neg (fun k => by rw [h] at k; omega)]
theorem page_hit {l : List Ent} {next c n : Int} {k : Nat} (h : pageErr l next c n = 0) (hk : at' (past c) l = k) : page l next c n = (l.drop k).take n.toNat := by
  unfold page
  rw [if_pos ⟨h, by rw [hk]; omega⟩, hk]
  rfl
end Fo
theorem run_cut_lh (w : World) (a : Option Addr) (m cap k j : Nat) (hk : k ≤ j) (hj : j ≤ cap) : (Instr.slice 63 (.slice a m cap) (some (.int .i64 (k : Int))) (some (.int .i64 (j : Int))) none).run Tryz.prog w = .ok (sliced a k j cap EE.sz) w := by
  rw [run_slice_lh (P := Tryz.prog) w 63 a m cap Tryz.underlying63 .i64 .i64 (k : Int) (j : Int) (by omega) (by omega) (by omega)]
  rfl
end Go.Proofs.YtacghcoikekfeaaGreat
