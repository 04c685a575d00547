/-
  inbox.first: a row's first text, taken; a call in a walk that comes to a select.
-/
import Derived.Test.YtocainggkdmojaaRows
import Derived.Conc.LoneSelect
import Derived.WalkKit
import Derived.WalkSpells
import Derived.WalkLawsBesides
import Derived.ProofKit
import Derived.KernelRfl
namespace Go.Proofs.Ytocainggkdmojaa
open Go.Conc Go.RowKit Go.ChangeShapes Go.WideShapes Go.ChangeAt
theorem thru {P : Program} {Q : Goroutine → World → Prop} {f : FuncId} {args : Array Value} {w : World} {R : Ending → World → Prop} {c : Frame} {cs : List Frame} (h : Calls P f args w R) (hno : ∀ e w', R e w' → ∃ v, e = .returned v) (hk : ∀ v w', R (.returned v) w' → LoneTo P Q (G (c.finish v) cs) w') : LoneTo P Q (G (Frame.enter P f args .normal) (c :: cs)) w := by
  obtain ⟨e, w', fr, hR, hc, hf, hl⟩ := h (c :: cs)
  obtain ⟨v, rfl⟩ := hno _ _ hR
  obtain ⟨g2, w2, hs, hq⟩ := hk v w' hR
  exact ⟨g2, w2, Steps.trans hc (Steps.head (step_leave_returned hl) hs), hq⟩
theorem enter_first (v : Value) : Frame.enter Try.prog 22 #[v] .normal = (base 22).at ⟨#[v, undef, undef, undef, undef, undef, undef, undef, undef, undef, undef], []⟩ [.code (Try.f22.body.getD .skip)] := by
  simp [Frame.enter, Frame.at, Try.func22, base, Try.f22]
set_option maxRecDepth 100000 in
theorem first_nil (w : World) : Calls Try.prog 22 #[.chan none] w fun e w' => e = .returned (.tuple #[.string ⟨#[]⟩, .bool false]) ∧ w' = w := by
  refine calls_of_loneTo fun cs => ?_
  rw [enter_first]
  refine LoneTo.goes (n := 60) ?_
  simp only [Try.f22, Option.getD_some]
  repeat (first | s_c stepG_seq | s_c stepG_region_end | s_c stepG_block | s_reg | s_op)
  s_stop
  refine LoneTo.step (step_lone_select_recv_nil (stepG_comm (cases := #[rcaseNil (.string ⟨#[]⟩)]) (blocking := false) (shape := .select) (w' := w) rfl rfl (by decide) (by simp [go_sem, execOp, rcaseNil, Act.eval]))) ?_
  rw [Frame.finish_at]
  walk_nrm
  refine LoneTo.goes (n := 40) ?_
  s_op
  s_op
  s_c stepG_region_end
  s_c stepG_block
  s_cond false
  repeat (first | s_c stepG_seq | s_c stepG_region_end | s_c stepG_block | s_reg | s_op)
  s_c stepG_ret'
  s_stop
  exact LoneTo.done ⟨_, _, rfl, ⟨rfl, rfl⟩, rfl, rfl, rfl, rfl, _, Try.func22, by simp [results, Try.f22, Frame.at]⟩
set_option maxRecDepth 100000 in
theorem first_none (c cap s r : Nat) (tm : Bool) (w : World) (hc : w.heap[c]? = some (.chan cap #[] false s r tm)) : Calls Try.prog 22 #[.chan (some c)] w fun e w' => e = .returned (.tuple #[.string ⟨#[]⟩, .bool false]) ∧ w' = w := by
  refine calls_of_loneTo fun cs => ?_
  rw [enter_first]
  refine LoneTo.goes (n := 60) ?_
  simp only [Try.f22, Option.getD_some]
  repeat (first | s_c stepG_seq | s_c stepG_region_end | s_c stepG_block | s_reg | s_op)
  s_stop
  refine LoneTo.step (step_lone_select_default (c := c) (cap := cap) (s := s) (r := r) (tm := tm) (stepG_comm (cases := #[rcase c (.string ⟨#[]⟩)]) (blocking := false) (shape := .select) (w' := w) rfl rfl (by decide) (by simp [go_sem, execOp, rcase, Act.eval])) hc) ?_
  rw [Frame.finish_at]
  walk_nrm
  refine LoneTo.goes (n := 40) ?_
  s_op
  s_op
  s_c stepG_region_end
  s_c stepG_block
  s_cond false
  repeat (first | s_c stepG_seq | s_c stepG_region_end | s_c stepG_block | s_reg | s_op)
  s_c stepG_ret'
  s_stop
  exact LoneTo.done ⟨_, _, rfl, ⟨rfl, rfl⟩, rfl, rfl, rfl, rfl, _, Try.func22, by simp [results, Try.f22, Frame.at]⟩
set_option maxRecDepth 100000 in
theorem first_some (c cap s r : Nat) (tm cl : Bool) (x : ByteArray) (buf : Array Value) (w : World) (hc : w.heap[c]? = some (.chan cap buf cl s r tm)) (hb : 0 < buf.size) (hx : buf.getD 0 undef = .string x) : Calls Try.prog 22 #[.chan (some c)] w fun e w' => e = .returned (.tuple #[.string x, .bool true]) ∧ w' = w.setChan c cap (buf.extract 1 buf.size) cl s (r + 1) tm := by
  refine calls_of_loneTo fun cs => ?_
  rw [enter_first]
  refine LoneTo.goes (n := 60) ?_
  simp only [Try.f22, Option.getD_some]
  repeat (first | s_c stepG_seq | s_c stepG_region_end | s_c stepG_block | s_reg | s_op)
  s_stop
  refine LoneTo.step (step_lone_select_recv_buf (c := c) (cap := cap) (buf := buf) (closed := cl) (s := s) (r := r) (tm := tm) (stepG_comm (cases := #[rcase c (.string ⟨#[]⟩)]) (blocking := false) (shape := .select) (w' := w) rfl rfl (by decide) (by simp [go_sem, execOp, rcase, Act.eval])) hc hb) ?_
  rw [Frame.finish_at, hx]
  walk_nrm
  refine LoneTo.goes (n := 40) ?_
  s_op
  s_op
  s_c stepG_region_end
  s_c stepG_block
  s_cond true
  repeat (first | s_c stepG_seq | s_c stepG_region_end | s_c stepG_block | s_reg | s_op)
  s_c stepG_ret'
  s_stop
  exact LoneTo.done ⟨_, _, rfl, ⟨rfl, rfl⟩, rfl, rfl, rfl, rfl, _, Try.func22, by simp [results, Try.f22, Frame.at]⟩
end Go.Proofs.Ytocainggkdmojaa
