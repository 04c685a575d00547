/-
  The texts IFirst, IBase, IPut, ITake, PPlain, PSum, as one.
-/
import Derived.Test.YtkdhbjmpjbdobaaGreatDoorRows
import Derived.Conc.LoneSelect
import Derived.WalkKit
import Derived.WalkSpells
import Derived.WalkLawsBesides
import Derived.ProofKit
import Derived.KernelRfl
import Derived.Conc.LoneSelectN
import Derived.Laws.BitsAllLaws
import Derived.Test.YtkdhbjmpjbdobaaGreatDoorChecked
/- IFirst -/
namespace Go.Proofs.YtkdhbjmpjbdobaaGreatDoor.Xs
open Go.Conc Go.RowKit Go.ChangeShapes Go.WideShapes Go.ChangeAt
set_option maxRecDepth 100000
theorem thru {P : Program} {Q : Goroutine → World → Prop} {f : FuncId} {args : Array Value} {w : World} {R : Ending → World → Prop} {c : Frame} {cs : List Frame} (h : Calls P f args w R) (hno : ∀ e w', R e w' → ∃ v, e = .returned v) (hk : ∀ v w', R (.returned v) w' → LoneTo P Q (G (c.finish v) cs) w') : LoneTo P Q (G (Frame.enter P f args .normal) (c :: cs)) w := by
  obtain ⟨e, w', fr, hR, hc, hf, hl⟩ := h (c :: cs)
  obtain ⟨v, rfl⟩ := hno _ _ hR
  obtain ⟨g2, w2, hs, hq⟩ := hk v w' hR
  exact ⟨g2, w2, Steps.trans hc (Steps.head (step_leave_returned hl) hs), hq⟩
theorem enter_first (v : Value) : Frame.enter Tryz.prog 69 #[v] .normal = (base 69).at ⟨#[v, undef, undef, undef, undef, undef, undef, undef, undef, undef, undef], []⟩ [.code (Tryz.f69.body.getD .skip)] := by
  simp [Frame.enter, Frame.at, Tryz.func69, base, Tryz.f69]
set_option maxRecDepth 100000 in
theorem first_nil (w : World) : Calls Tryz.prog 69 #[.chan none] w fun e w' => e = .returned (.tuple #[.string ⟨#[]⟩, .bool false]) ∧ w' = w := by
  refine calls_of_loneTo fun cs => ?_
  rw [enter_first]
  refine LoneTo.goes (n := 60) ?_
  simp only [Tryz.f69, Option.getD_some]
  repeat (first | s_c stepG_seq | s_c stepG_region_end | s_c stepG_block | s_reg | s_op)
  s_stop
  refine LoneTo.step (step_lone_select_recv_nil (stepG_comm (cases := #[rcaseNil (.string ⟨#[]⟩)]) (blocking := false) (shape := .select) (w' := w) rfl rfl (by decide) (by simp [go_sem, execOp, rcaseNil, Act.eval]))) ?_
  rw [Frame.finish_at]
  walk_nrm
  refine LoneTo.goes (n := 40) ?_
  s_op
  s_op
  s_c stepG_region_end
  s_c stepG_block
  s_cond false
  repeat (first | s_c stepG_seq | s_c stepG_region_end | s_c stepG_block | s_reg | s_op)
  s_c stepG_ret'
  s_stop
  exact LoneTo.done ⟨_, _, rfl, ⟨rfl, rfl⟩, rfl, rfl, rfl, rfl, _, Tryz.func69, by simp [results, Tryz.f69, Frame.at]⟩
set_option maxRecDepth 100000 in
theorem first_none (c cap s r : Nat) (tm : Bool) (w : World) (hc : w.heap[c]? = some (.chan cap #[] false s r tm)) : Calls Tryz.prog 69 #[.chan (some c)] w fun e w' => e = .returned (.tuple #[.string ⟨#[]⟩, .bool false]) ∧ w' = w := by
  refine calls_of_loneTo fun cs => ?_
  rw [enter_first]
  refine LoneTo.goes (n := 60) ?_
  simp only [Tryz.f69, Option.getD_some]
  repeat (first | s_c stepG_seq | s_c stepG_region_end | s_c stepG_block | s_reg | s_op)
  s_stop
  refine LoneTo.step (step_lone_select_default (c := c) (cap := cap) (s := s) (r := r) (tm := tm) (stepG_comm (cases := #[rcase c (.string ⟨#[]⟩)]) (blocking := false) (shape := .select) (w' := w) rfl rfl (by decide) (by simp [go_sem, execOp, rcase, Act.eval])) hc) ?_
  rw [Frame.finish_at]
  walk_nrm
  refine LoneTo.goes (n := 40) ?_
  s_op
  s_op
  s_c stepG_region_end
  s_c stepG_block
  s_cond false
  repeat (first | s_c stepG_seq | s_c stepG_region_end | s_c stepG_block | s_reg | s_op)
  s_c stepG_ret'
  s_stop
  exact LoneTo.done ⟨_, _, rfl, ⟨rfl, rfl⟩, rfl, rfl, rfl, rfl, _, Tryz.func69, by simp [results, Tryz.f69, Frame.at]⟩
set_option maxRecDepth 100000 in
theorem first_some (c cap s r : Nat) (tm cl : Bool) (x : ByteArray) (buf : Array Value) (w : World) (hc : w.heap[c]? = some (.chan cap buf cl s r tm)) (hb : 0 < buf.size) (hx : buf.getD 0 undef = .string x) : Calls Tryz.prog 69 #[.chan (some c)] w fun e w' => e = .returned (.tuple #[.string x, .bool true]) ∧ w' = w.setChan c cap (buf.extract 1 buf.size) cl s (r + 1) tm := by
  refine calls_of_loneTo fun cs => ?_
  rw [enter_first]
  refine LoneTo.goes (n := 60) ?_
  simp only [Tryz.f69, Option.getD_some]
  repeat (first | s_c stepG_seq | s_c stepG_region_end | s_c stepG_block | s_reg | s_op)
  s_stop
  refine LoneTo.step (step_lone_select_recv_buf (c := c) (cap := cap) (buf := buf) (closed := cl) (s := s) (r := r) (tm := tm) (stepG_comm (cases := #[rcase c (.string ⟨#[]⟩)]) (blocking := false) (shape := .select) (w' := w) rfl rfl (by decide) (by simp [go_sem, execOp, rcase, Act.eval])) hc hb) ?_
  rw [Frame.finish_at, hx]
  walk_nrm
  refine LoneTo.goes (n := 40) ?_
  s_op
  s_op
  s_c stepG_region_end
  s_c stepG_block
  s_cond true
  repeat (first | s_c stepG_seq | s_c stepG_region_end | s_c stepG_block | s_reg | s_op)
  s_c stepG_ret'
  s_stop
  exact LoneTo.done ⟨_, _, rfl, ⟨rfl, rfl⟩, rfl, rfl, rfl, rfl, _, Tryz.func69, by simp [results, Tryz.f69, Frame.at]⟩
end Go.Proofs.YtkdhbjmpjbdobaaGreatDoor.Xs
/- IBase -/
namespace Go.Proofs.YtkdhbjmpjbdobaaGreatDoor.Xs
open Go.Conc Go.RowKit Go.ChangeShapes Go.WideShapes Go.ChangeAt
set_option maxRecDepth 100000
def vs (l : List ByteArray) : Array Value := (l.map Value.string).toArray
theorem vs_size (l : List ByteArray) : (vs l).size = l.length := by simp [vs]
theorem vs_push (l : List ByteArray) (x : ByteArray) : (vs l).push (.string x) = vs (l ++ [x]) := by simp [vs]
theorem vs_pop (x : ByteArray) (l : List ByteArray) : (vs (x :: l)).extract 1 (vs (x :: l)).size = vs l := by
  simp [vs, List.extract]
  exact List.take_of_length_le (by simp)
theorem vs_head (x : ByteArray) (l : List ByteArray) : (vs (x :: l)).getD 0 undef = .string x := by simp [vs]
/-- An inbox: its box, its rows. -/
structure In (w : World) (B cu cn room : Nat) (cl : Bool) (U N : List ByteArray) : Prop where
  bx : w.heap[B]? = some (.cells #[.chan (some cu), .chan (some cn), .bool cl] 114)
  u : ∃ s r, w.heap[cu]? = some (.chan room (vs U) false s r false)
  n : ∃ s r, w.heap[cn]? = some (.chan room (vs N) false s r false)
  ne : cu ≠ cn
theorem In.up {w w' : World} {B cu cn room : Nat} {cl : Bool} {U N : List ByteArray} (h : In w B cu cn room cl U N) (h1 : w'.heap[B]? = w.heap[B]?) (h2 : w'.heap[cu]? = w.heap[cu]?) (h3 : w'.heap[cn]? = w.heap[cn]?) : In w' B cu cn room cl U N :=
  ⟨h1.trans h.bx, let ⟨s, r, e⟩ := h.u; ⟨s, r, h2.trans e⟩, let ⟨s, r, e⟩ := h.n; ⟨s, r, h3.trans e⟩, h.ne⟩
theorem In.cells {w : World} {B cu cn room : Nat} {cl : Bool} {U N : List ByteArray} (h : In w B cu cn room cl U N) : w.cell? ⟨B, 0, none⟩ = some (.chan (some cu)) ∧ w.cell? ⟨B, 1, none⟩ = some (.chan (some cn)) ∧ w.cell? ⟨B, 2, none⟩ = some (.bool cl) := by
  refine ⟨?_, ?_, ?_⟩ <;> simp [World.cell?, h.bx]
theorem setChan_other (w : World) (c c' cap : Nat) (buf : Array Value) (closed : Bool) (s r : Nat) (tm : Bool) (h : c ≠ c') : (w.setChan c cap buf closed s r tm).heap[c']? = w.heap[c']? := by
  simp [World.setChan, Array.getElem?_setIfInBounds_ne h]
/-- Nothing is turned but the three blocks of an inbox. -/
structure Oth (B cu cn : Nat) (w w' : World) : Prop where
  os : w'.os = w.os
  tape : w'.tape = w.tape
  output : w'.output = w.output
  size : w.heap.size ≤ w'.heap.size
  block : ∀ k, k < w.heap.size → k ≠ B → k ≠ cu → k ≠ cn → w'.heap[k]? = w.heap[k]?
theorem Oth.refl (B cu cn : Nat) (w : World) : Oth B cu cn w w := ⟨rfl, rfl, rfl, Nat.le_refl _, fun _ _ _ _ _ => rfl⟩
theorem Oth.trans {B cu cn : Nat} {w w1 w2 : World} (h : Oth B cu cn w w1) (k : Oth B cu cn w1 w2) : Oth B cu cn w w2 :=
  ⟨k.os.trans h.os, k.tape.trans h.tape, k.output.trans h.output, Nat.le_trans h.size k.size, fun q hq a b c => (k.block q (Nat.lt_of_lt_of_le hq h.size) a b c).trans (h.block q hq a b c)⟩
theorem Oth.of {B cu cn : Nat} {w w' : World} (h : Below w.heap.size w w') : Oth B cu cn w w' := ⟨h.os, h.tape, h.output, h.size, fun q hq _ _ _ => h.block q hq⟩
theorem Oth.below {B cu cn n : Nat} {w0 w w' : World} (h : Oth B cu cn w w') (h0 : Below n w0 w) (hn : n ≤ w.heap.size) (h1 : n ≤ B) (h2 : n ≤ cu) (h3 : n ≤ cn) : Below n w0 w' :=
  ⟨h.os.trans h0.os, h.tape.trans h0.tape, h.output.trans h0.output, Nat.le_trans h0.size h.size, fun k hk => (h.block k (by omega) (by omega) (by omega) (by omega)).trans (h0.block k hk)⟩
theorem Oth.chan {B cu cn : Nat} {w : World} (c cap : Nat) (buf : Array Value) (cl : Bool) (s r : Nat) (tm : Bool) (h : c = cu ∨ c = cn) : Oth B cu cn w (w.setChan c cap buf cl s r tm) :=
  ⟨rfl, rfl, rfl, by simp [World.setChan], fun k _ _ h2 h3 => setChan_other _ _ _ _ _ _ _ _ _ (by rcases h with rfl | rfl <;> omega)⟩
theorem In.setU {w : World} {B cu cn room : Nat} {cl : Bool} {U N : List ByteArray} (h : In w B cu cn room cl U N) (U' : List ByteArray) (s r : Nat) : In (w.setChan cu room (vs U') false s r false) B cu cn room cl U' N := by
  obtain ⟨s1, r1, e1⟩ := h.u
  obtain ⟨s2, r2, e2⟩ := h.n
  have hne : cu ≠ B := fun e => by rw [e, h.bx] at e1; cases e1
  exact ⟨(setChan_other _ _ _ _ _ _ _ _ _ hne).trans h.bx, ⟨s, r, heap_setChan _ _ _ _ _ _ _ _ (Array.getElem?_eq_some_iff.1 e1).1⟩, ⟨s2, r2, (setChan_other _ _ _ _ _ _ _ _ _ h.ne).trans e2⟩, h.ne⟩
theorem In.setN {w : World} {B cu cn room : Nat} {cl : Bool} {U N : List ByteArray} (h : In w B cu cn room cl U N) (N' : List ByteArray) (s r : Nat) : In (w.setChan cn room (vs N') false s r false) B cu cn room cl U N' := by
  obtain ⟨s1, r1, e1⟩ := h.u
  obtain ⟨s2, r2, e2⟩ := h.n
  have hne : cn ≠ B := fun e => by rw [e, h.bx] at e2; cases e2
  exact ⟨(setChan_other _ _ _ _ _ _ _ _ _ hne).trans h.bx, ⟨s1, r1, (setChan_other _ _ _ _ _ _ _ _ _ (Ne.symm h.ne)).trans e1⟩, ⟨s, r, heap_setChan _ _ _ _ _ _ _ _ (Array.getElem?_eq_some_iff.1 e2).1⟩, h.ne⟩
@[go_sem] theorem chan_not_nil (c : Nat) (w : World) : (binOp BinOp.eql 112 (.chan (some c)) (.chan none)).run Tryz.prog w = .ok (.bool false) w := by
  have e : (Op.equalIn 10000 112 (.chan (some c)) (.chan none)).run Tryz.prog w = .ok false w := by
    rw [show (10000 : Nat) = 9999 + 1 from rfl, Op.equalIn]
    simp only [Sem.run_bind, run_underlying Tryz.underlying112, Result.andThen_ok]
    rfl
  have e2 : (binOp BinOp.eql 112 (.chan (some c)) (.chan none)).run Tryz.prog w = ((Op.equalIn 10000 112 (.chan (some c)) (.chan none)).run Tryz.prog w).andThen fun b w' => .ok (.bool b) w' := rfl
  rw [e2, e]
  rfl
theorem closed_nil (w : World) : Calls Tryz.prog 99 #[.pointer none] w fun e w' => e = .returned (.bool true) ∧ w' = w := by
  go_enter Tryz.func99, Tryz.ntmps99
  go_wp2
  go_ret
  exact ⟨rfl, rfl⟩
theorem closed_any (B cu cn room : Nat) (cl : Bool) (U N : List ByteArray) (w : World) (h : In w B cu cn room cl U N) : Calls Tryz.prog 99 #[.pointer (some ⟨B, 0, none⟩)] w fun e w' => e = .returned (.bool cl) ∧ w' = w := by
  obtain ⟨c0, c1, c2⟩ := h.cells
  clear h
  cases cl <;>
  · go_enter Tryz.func99, Tryz.ntmps99
    go_wp2
    go_ret
    exact ⟨rfl, rfl⟩
theorem rows_nil (w : World) : Calls Tryz.prog 68 #[.pointer none] w fun e w' => e = .returned (.tuple #[.chan none, .chan none]) ∧ w' = w := by
  go_enter Tryz.func68, Tryz.ntmps68
  go_wp2
  go_ret2
  exact ⟨rfl, rfl⟩
theorem rows_any (B cu cn room : Nat) (cl : Bool) (U N : List ByteArray) (w : World) (h : In w B cu cn room cl U N) : Calls Tryz.prog 68 #[.pointer (some ⟨B, 0, none⟩)] w fun e w' => e = .returned (.tuple #[.chan (some cu), .chan (some cn)]) ∧ Below w.heap.size w w' ∧ w'.heap = w.heap := by
  obtain ⟨c0, c1, c2⟩ := h.cells
  clear h
  go_enter Tryz.func68, Tryz.ntmps68
  go_wp2
  go_region
  all_goals
    go_wp2
    go_ret2
    exact ⟨rfl, ⟨rfl, rfl, rfl, Nat.le_refl _, fun _ _ => rfl⟩, rfl⟩
theorem row_nil (b : Bool) (w : World) : Calls Tryz.prog 100 #[.pointer none, .bool b] w fun e w' => e = .returned (.chan none) ∧ w' = w := by
  cases b <;>
  · go_enter Tryz.func100, Tryz.ntmps100
    go_wp2_with fail
    refine (rows_nil _).mono ?_
    rintro e w' ⟨rfl, rfl⟩
    go_wp2
    go_ret
    exact ⟨rfl, rfl⟩
theorem row_any (b : Bool) (B cu cn room : Nat) (cl : Bool) (U N : List ByteArray) (w : World) (h : In w B cu cn room cl U N) : Calls Tryz.prog 100 #[.pointer (some ⟨B, 0, none⟩), .bool b] w fun e w' => e = .returned (.chan (some (if b then cu else cn))) ∧ Below w.heap.size w w' ∧ w'.heap = w.heap := by
  have H : Hid (In w B cu cn room cl U N) := h
  clear h
  cases b <;>
  · go_enter Tryz.func100, Tryz.ntmps100
    go_wp2_with fail
    refine (rows_any B cu cn room cl U N _ H.out).mono ?_
    rintro e w1 ⟨rfl, hb⟩
    have HB : Hid (Below w.heap.size w w1 ∧ w1.heap = w.heap) := hb
    clear hb
    go_wp2
    go_ret
    exact ⟨rfl, HB.out⟩
end Go.Proofs.YtkdhbjmpjbdobaaGreatDoor.Xs
/- IPut -/
namespace Go.Proofs.YtkdhbjmpjbdobaaGreatDoor.Xs
open Go.Conc Go.RowKit Go.ChangeShapes Go.WideShapes Go.ChangeAt
set_option maxRecDepth 100000
theorem goes_enter {P : Program} {main : Bool} {b : Frame} {a : Act} {k : List Item} {cs : List Frame} {w : World} {ops : Array Oper} {i : Nat} {rest : List Nat} {o : Oper} {K : Goroutine → World → Array Event → Prop} {f : FuncId} {fn : Func} {c : Code} {args : Array Operand} {ats : Array TypeId} (vals : Array Value)
    (ho : ops[i]? = some o) (hw : Region.wanted o (yielded ops a.tmps) = true) (hk : b.kind ≠ .early) (hop : o.op = .call { callee := .value (.func f), args, argTypes := ats })
    (hf : P.funcs[f]? = some fn) (hname : (fn.name == "runtime.NumGoroutine") = false) (hb : fn.body = some c) (hv : args.map a.eval = vals)
    (h : K (G (Frame.enter P f vals .normal) (b.at a (.inRegion ops (i :: rest) :: k) :: cs)) w #[]) :
    (stepG P main (G (b.at a (.inRegion ops (i :: rest) :: k)) cs) w).goes K :=
  goes_call ho hw hk hop hf hname hb (by rw [← enter_at _ hf hb, hv]; exact h)
theorem enter_put (v b s : Value) : Frame.enter Tryz.prog 59 #[v, b, s] .normal = (base 59).at ⟨#[v, b, s, undef, undef, undef, undef, undef, undef, undef, undef, undef, undef, undef, undef, undef], []⟩ [.code (Tryz.f59.body.getD .skip)] := by
  simp [Frame.enter, Frame.at, Tryz.func59, base, Tryz.f59]
/-- Up to isClosed's answer. -/
theorem put_shut (p : Option Addr) (b : Bool) (s : ByteArray) (w : World) (hc : Calls Tryz.prog 99 #[.pointer p] w fun e w' => e = .returned (.bool true) ∧ w' = w) : Calls Tryz.prog 59 #[.pointer p, .bool b, .string s] w fun e w' => e = .returned (.int .i64 7) ∧ w' = w := by
  have H : Hid (Calls Tryz.prog 99 #[.pointer p] w fun e w' => e = .returned (.bool true) ∧ w' = w) := hc
  clear hc
  go_enter Tryz.func59, Tryz.ntmps59
  go_wp2_with fail
  refine H.out.mono ?_
  rintro e w' ⟨rfl, rfl⟩
  go_wp2
  go_ret
  exact ⟨rfl, rfl⟩
set_option maxRecDepth 100000 in
theorem put_full (B c cap s r : Nat) (b : Bool) (buf : Array Value) (x : ByteArray) (w : World) (h1 : Calls Tryz.prog 99 #[.pointer (some ⟨B, 0, none⟩)] w fun e w' => e = .returned (.bool false) ∧ w' = w)
    (h2 : Calls Tryz.prog 100 #[.pointer (some ⟨B, 0, none⟩), .bool b] w fun e w' => e = .returned (.chan (some c)) ∧ Below w.heap.size w w' ∧ w'.heap = w.heap) (hc : w.heap[c]? = some (.chan cap buf false s r false)) (hf : cap ≤ buf.size) :
    Calls Tryz.prog 59 #[.pointer (some ⟨B, 0, none⟩), .bool b, .string x] w fun e w' => e = .returned (.int .i64 5) ∧ Below w.heap.size w w' ∧ w'.heap = w.heap := by
  refine calls_of_loneTo fun cs => ?_
  rw [enter_put]
  refine LoneTo.goes (n := 60) ?_
  simp only [Tryz.f59, Option.getD_some]
  repeat (first | s_c stepG_seq | s_c stepG_block | s_c stepG_skip)
  s_reg
  s_op
  s_c stepG_region_end
  repeat (first | s_c stepG_seq | s_c stepG_block | s_c stepG_skip)
  s_reg
  s_op
  (s_in; refine goes_enter #[.pointer (some ⟨B, 0, none⟩)] rfl rfl (by decide) rfl Tryz.func99 (by rfl) rfl (by simp [Act.eval]) ⟨trivial, ?_⟩)
  s_stop
  refine thru h1 (by rintro e w' ⟨rfl, -⟩; exact ⟨_, rfl⟩) ?_
  rintro v w' ⟨e, rfl⟩
  obtain rfl := Ending.returned.inj e
  clear e
  rw [Frame.finish_at]
  walk_nrm
  refine LoneTo.goes (n := 60) ?_
  s_c stepG_region_end
  s_cond false
  repeat (first | s_c stepG_seq | s_c stepG_block | s_c stepG_skip)
  s_reg
  s_op
  s_op
  (s_in; refine goes_enter #[.pointer (some ⟨B, 0, none⟩), .bool b] rfl rfl (by decide) rfl Tryz.func100 (by rfl) rfl (by simp [Act.eval]) ⟨trivial, ?_⟩)
  s_stop
  refine thru h2 (by rintro e w' ⟨rfl, -⟩; exact ⟨_, rfl⟩) ?_
  rintro v w1 ⟨e, hb1, hh1⟩
  obtain rfl := Ending.returned.inj e
  clear e
  rw [Frame.finish_at]
  walk_nrm
  refine LoneTo.goes (n := 60) ?_
  s_c stepG_region_end
  repeat (first | s_c stepG_seq | s_c stepG_block | s_c stepG_skip)
  s_reg
  s_op
  s_c stepG_region_end
  repeat (first | s_c stepG_seq | s_c stepG_block | s_c stepG_skip)
  s_reg
  s_stop
  refine LoneTo.step (step_lone_select_send_full (c := c) (cap := cap) (buf := buf) (s := s) (r := r) (tm := false) (stepG_comm (cases := #[scase c (.string x) (.string ⟨#[]⟩)]) (blocking := false) (shape := .select) (w' := w1) rfl rfl (by decide) (by simp [go_sem, execOp, scase, Act.eval])) (by rw [hh1]; exact hc) hf) ?_
  rw [Frame.finish_at]
  walk_nrm
  refine LoneTo.goes (n := 60) ?_
  s_op
  s_op
  s_c stepG_region_end
  s_c stepG_block
  s_cond false
  repeat (first | s_c stepG_seq | s_c stepG_block | s_c stepG_skip)
  s_reg
  s_op
  s_c stepG_region_end
  repeat (first | s_c stepG_seq | s_c stepG_block | s_c stepG_skip)
  s_c stepG_ret'
  s_stop
  exact LoneTo.done ⟨_, _, rfl, ⟨rfl, hb1, hh1⟩, rfl, rfl, rfl, rfl, _, Tryz.func59, by simp [results, Tryz.f59, Frame.at]⟩
set_option maxRecDepth 100000 in
theorem put_room (B c cap s r : Nat) (b : Bool) (buf : Array Value) (x : ByteArray) (w : World) (h1 : Calls Tryz.prog 99 #[.pointer (some ⟨B, 0, none⟩)] w fun e w' => e = .returned (.bool false) ∧ w' = w)
    (h2 : Calls Tryz.prog 100 #[.pointer (some ⟨B, 0, none⟩), .bool b] w fun e w' => e = .returned (.chan (some c)) ∧ Below w.heap.size w w' ∧ w'.heap = w.heap) (hc : w.heap[c]? = some (.chan cap buf false s r false)) (hf : buf.size < cap) :
    Calls Tryz.prog 59 #[.pointer (some ⟨B, 0, none⟩), .bool b, .string x] w fun e w' => e = .returned (.int .i64 0) ∧ ∃ w1, (Below w.heap.size w w1 ∧ w1.heap = w.heap) ∧ w' = w1.setChan c cap (buf.push (.string x)) false (s + 1) r false := by
  refine calls_of_loneTo fun cs => ?_
  rw [enter_put]
  refine LoneTo.goes (n := 60) ?_
  simp only [Tryz.f59, Option.getD_some]
  repeat (first | s_c stepG_seq | s_c stepG_block | s_c stepG_skip)
  s_reg
  s_op
  s_c stepG_region_end
  repeat (first | s_c stepG_seq | s_c stepG_block | s_c stepG_skip)
  s_reg
  s_op
  (s_in; refine goes_enter #[.pointer (some ⟨B, 0, none⟩)] rfl rfl (by decide) rfl Tryz.func99 (by rfl) rfl (by simp [Act.eval]) ⟨trivial, ?_⟩)
  s_stop
  refine thru h1 (by rintro e w' ⟨rfl, -⟩; exact ⟨_, rfl⟩) ?_
  rintro v w' ⟨e, rfl⟩
  obtain rfl := Ending.returned.inj e
  clear e
  rw [Frame.finish_at]
  walk_nrm
  refine LoneTo.goes (n := 60) ?_
  s_c stepG_region_end
  s_cond false
  repeat (first | s_c stepG_seq | s_c stepG_block | s_c stepG_skip)
  s_reg
  s_op
  s_op
  (s_in; refine goes_enter #[.pointer (some ⟨B, 0, none⟩), .bool b] rfl rfl (by decide) rfl Tryz.func100 (by rfl) rfl (by simp [Act.eval]) ⟨trivial, ?_⟩)
  s_stop
  refine thru h2 (by rintro e w' ⟨rfl, -⟩; exact ⟨_, rfl⟩) ?_
  rintro v w1 ⟨e, hb1, hh1⟩
  obtain rfl := Ending.returned.inj e
  clear e
  rw [Frame.finish_at]
  walk_nrm
  refine LoneTo.goes (n := 60) ?_
  s_c stepG_region_end
  repeat (first | s_c stepG_seq | s_c stepG_block | s_c stepG_skip)
  s_reg
  s_op
  s_c stepG_region_end
  repeat (first | s_c stepG_seq | s_c stepG_block | s_c stepG_skip)
  s_reg
  s_stop
  refine LoneTo.step (step_lone_select_send_room (c := c) (cap := cap) (buf := buf) (s := s) (r := r) (tm := false) (stepG_comm (cases := #[scase c (.string x) (.string ⟨#[]⟩)]) (blocking := false) (shape := .select) (w' := w1) rfl rfl (by decide) (by simp [go_sem, execOp, scase, Act.eval])) (by rw [hh1]; exact hc) hf) ?_
  rw [Frame.finish_at]
  walk_nrm
  refine LoneTo.goes (n := 60) ?_
  s_op
  s_op
  s_c stepG_region_end
  s_c stepG_block
  s_cond true
  repeat (first | s_c stepG_seq | s_c stepG_block | s_c stepG_skip)
  s_reg
  s_op
  s_c stepG_region_end
  repeat (first | s_c stepG_seq | s_c stepG_block | s_c stepG_skip)
  s_c stepG_ret'
  s_stop
  exact LoneTo.done ⟨_, _, rfl, ⟨rfl, w1, ⟨hb1, hh1⟩, rfl⟩, rfl, rfl, rfl, rfl, _, Tryz.func59, by simp [results, Tryz.f59, Frame.at]⟩
/-- What Put answers, and the row behind it. -/
def putE (cl : Bool) (room : Nat) (l : List ByteArray) : Int := if cl then 7 else if l.length < room then 0 else 5
def putL (cl : Bool) (room : Nat) (l : List ByteArray) (x : ByteArray) : List ByteArray := if cl then l else if l.length < room then l ++ [x] else l
theorem In.heap {w w' : World} {B cu cn room : Nat} {cl : Bool} {U N : List ByteArray} (h : In w B cu cn room cl U N) (e : w'.heap = w.heap) : In w' B cu cn room cl U N := h.up (by rw [e]) (by rw [e]) (by rw [e])
theorem put_any (B cu cn room : Nat) (cl b : Bool) (U N : List ByteArray) (x : ByteArray) (w : World) (h : In w B cu cn room cl U N) : Calls Tryz.prog 59 #[.pointer (some ⟨B, 0, none⟩), .bool b, .string x] w fun e w' => e = .returned (.int .i64 (if b then putE cl room U else putE cl room N)) ∧ In w' B cu cn room cl (if b then putL cl room U x else U) (if b then N else putL cl room N x) ∧ Oth B cu cn w w' := by
  cases cl with
  | true =>
    refine (put_shut _ b x w (closed_any B cu cn room true U N w h)).mono ?_
    rintro e w' ⟨rfl, rfl⟩
    cases b <;> exact ⟨rfl, h, Oth.refl _ _ _ _⟩
  | false =>
    have h1 := closed_any B cu cn room false U N w h
    have h2 := row_any b B cu cn room false U N w h
    obtain ⟨s1, r1, e1⟩ := h.u
    obtain ⟨s2, r2, e2⟩ := h.n
    cases b with
    | true =>
      by_cases hl : U.length < room
      · refine (put_room B cu room s1 r1 true (vs U) x w h1 h2 e1 (by rw [vs_size]; exact hl)).mono ?_
        rintro e w' ⟨rfl, w1, ⟨hb, hh⟩, rfl⟩
        rw [vs_push]
        refine ⟨by simp [putE, hl], ?_, (Oth.of hb).trans (Oth.chan _ _ _ _ _ _ _ (.inl rfl))⟩
        simp only [putL, hl, if_true, Bool.false_eq_true, if_false]
        exact (h.heap hh).setU _ _ _
      · refine (put_full B cu room s1 r1 true (vs U) x w h1 h2 e1 (by rw [vs_size]; omega)).mono ?_
        rintro e w' ⟨rfl, hb, hh⟩
        refine ⟨by simp [putE, hl], ?_, Oth.of hb⟩
        simp only [putL, hl, if_true, Bool.false_eq_true, if_false]
        exact h.heap hh
    | false =>
      by_cases hl : N.length < room
      · refine (put_room B cn room s2 r2 false (vs N) x w h1 h2 e2 (by rw [vs_size]; exact hl)).mono ?_
        rintro e w' ⟨rfl, w1, ⟨hb, hh⟩, rfl⟩
        rw [vs_push]
        refine ⟨by simp [putE, hl], ?_, (Oth.of hb).trans (Oth.chan _ _ _ _ _ _ _ (.inr rfl))⟩
        simp only [putL, hl, if_true, Bool.false_eq_true, if_false]
        exact (h.heap hh).setN _ _ _
      · refine (put_full B cn room s2 r2 false (vs N) x w h1 h2 e2 (by rw [vs_size]; omega)).mono ?_
        rintro e w' ⟨rfl, hb, hh⟩
        refine ⟨by simp [putE, hl], ?_, Oth.of hb⟩
        simp only [putL, hl, Bool.false_eq_true, if_false]
        exact h.heap hh
end Go.Proofs.YtkdhbjmpjbdobaaGreatDoor.Xs
/- ITake -/
namespace Go.Proofs.YtkdhbjmpjbdobaaGreatDoor.Xs
open Go.Conc Go.RowKit Go.ChangeShapes Go.WideShapes Go.ChangeAt
set_option maxRecDepth 100000
theorem infoS : (Tryz.prog.info? 9).map (·.bytes) = some 16 := by kernel_rfl
theorem mkc (n : Int) (h0 : 0 ≤ n) (h1 : n ≤ 256) (w : World) : (Instr.makeChan 112 (.int .i64 n)).run Tryz.prog w = .ok (.chan (some w.heap.size)) (w.alloc (.chan n.toNat #[] false 0 0 false)) := by
  obtain ⟨i, hi, hb⟩ := Option.map_eq_some_iff.1 infoS
  obtain ⟨k, rfl⟩ := Int.eq_ofNat_of_zero_le h0
  simpa using run_makeChan (P := Tryz.prog) (w := w) Tryz.underlying112 hi .i64 k (by omega) (by rw [hb]; omega)
theorem new_bad (n : Int) (w : World) (h : n < 1 ∨ 256 < n) : Calls Tryz.prog 24 #[.int .i64 n] w fun e w' => e = .returned (.tuple #[.pointer none, .int .i64 1]) ∧ w' = w := by
  by_cases h1 : n < 1
  · go_enter Tryz.func24, Tryz.ntmps24
    go_wp2
    go_ret2
    exact ⟨rfl, rfl⟩
  · have h2 : 256 < n := by omega
    clear h
    go_enter Tryz.func24, Tryz.ntmps24
    go_wp2
    go_ret2
    exact ⟨rfl, rfl⟩
theorem in_new (w W : World) (r : Nat) (a b : Nat) (hab : a = w.heap.size ∧ b = w.heap.size + 1 ∨ a = w.heap.size + 1 ∧ b = w.heap.size) (hW : W.heap = (((w.alloc (.chan r #[] false 0 0 false)).alloc (.chan r #[] false 0 0 false)).alloc (.cells #[.chan (some a), .chan (some b), .bool false] 114)).heap) : In W (w.heap.size + 2) a b r false [] [] := by
  have s1 : (w.alloc (.chan r #[] false 0 0 false)).heap.size = w.heap.size + 1 := by simp
  have s2 : ((w.alloc (.chan r #[] false 0 0 false)).alloc (.chan r #[] false 0 0 false)).heap.size = w.heap.size + 2 := by simp
  have k0 := heap_alloc_new w (.chan r #[] false 0 0 false)
  have k1 := heap_alloc_new (w.alloc (.chan r #[] false 0 0 false)) (.chan r #[] false 0 0 false)
  have k2 := heap_alloc_new ((w.alloc (.chan r #[] false 0 0 false)).alloc (.chan r #[] false 0 0 false)) (.cells #[.chan (some a), .chan (some b), .bool false] 114)
  rw [s1] at k1
  rw [s2] at k2
  have j0 : (((w.alloc (.chan r #[] false 0 0 false)).alloc (.chan r #[] false 0 0 false)).alloc (.cells #[.chan (some a), .chan (some b), .bool false] 114)).heap[w.heap.size]? = some (.chan r #[] false 0 0 false) := (Below.heap_alloc _ _ _ (by rw [s2]; omega)).trans ((Below.heap_alloc _ _ _ (by rw [s1]; omega)).trans k0)
  have j1 : (((w.alloc (.chan r #[] false 0 0 false)).alloc (.chan r #[] false 0 0 false)).alloc (.cells #[.chan (some a), .chan (some b), .bool false] 114)).heap[w.heap.size + 1]? = some (.chan r #[] false 0 0 false) := (Below.heap_alloc _ _ _ (by rw [s2]; omega)).trans k1
  rw [← hW] at k2 j0 j1
  rcases hab with ⟨rfl, rfl⟩ | ⟨rfl, rfl⟩
  · exact ⟨k2, ⟨0, 0, j0⟩, ⟨0, 0, j1⟩, by omega⟩
  · exact ⟨k2, ⟨0, 0, j1⟩, ⟨0, 0, j0⟩, by omega⟩
theorem new_ok (n : Int) (w : World) (h1 : 1 ≤ n) (h2 : n ≤ 256) : Calls Tryz.prog 24 #[.int .i64 n] w fun e w' => ∃ cu cn, e = .returned (.tuple #[.pointer (some ⟨w.heap.size + 2, 0, none⟩), .int .i64 0]) ∧ In w' (w.heap.size + 2) cu cn n.toNat false [] [] ∧ w.heap.size ≤ cu ∧ w.heap.size ≤ cn ∧ Below w.heap.size w w' := by
  have hmc := mkc n (by omega) h2
  have h3 : ¬ n < 1 := by omega
  have h4 : ¬ 256 < n := by omega
  have HB : Hid (∀ (W : World) (a b : Nat) (o : Obj), W.heap = (((w.alloc (.chan n.toNat #[] false 0 0 false)).alloc (.chan n.toNat #[] false 0 0 false)).alloc o).heap → W.os = w.os → W.tape = w.tape → W.output = w.output → Below w.heap.size w W) := fun W a b o h a1 a2 a3 => ⟨a1, a2, a3, by rw [h]; simp; omega, fun k hk => by rw [h]; exact (Below.heap_alloc _ _ _ (by simp; omega)).trans ((Below.heap_alloc _ _ _ (by simp; omega)).trans (Below.heap_alloc _ _ _ hk))⟩
  go_enter Tryz.func24, Tryz.ntmps24
  go_wp2
  go_region
  · go_wp2
    go_ret2
    exact ⟨w.heap.size, w.heap.size + 1, rfl, in_new w _ _ _ _ (.inl ⟨rfl, rfl⟩) rfl, by omega, by omega, HB.out _ 0 0 _ rfl rfl rfl rfl⟩
  · go_wp2
    go_ret2
    exact ⟨w.heap.size + 1, w.heap.size, rfl, in_new w _ _ _ _ (.inr ⟨rfl, rfl⟩) rfl, by omega, by omega, HB.out _ 0 0 _ rfl rfl rfl rfl⟩
theorem len_any (B cu cn room : Nat) (cl : Bool) (U N : List ByteArray) (w : World) (h : In w B cu cn room cl U N) : Calls Tryz.prog 55 #[.pointer (some ⟨B, 0, none⟩)] w fun e w' => e = .returned (.tuple #[.int .i64 U.length, .int .i64 N.length]) ∧ In w' B cu cn room cl U N ∧ Oth B cu cn w w' := by
  have H : Hid (In w B cu cn room cl U N) := h
  clear h
  go_enter Tryz.func55, Tryz.ntmps55
  go_wp2_with fail
  refine (rows_any B cu cn room cl U N _ H.out).mono ?_
  rintro e w1 ⟨rfl, hb, hh⟩
  have HB : Hid (In w1 B cu cn room cl U N ∧ Oth B cu cn w w1) := ⟨H.out.heap hh, Oth.of hb⟩
  obtain ⟨s1, r1, e1⟩ := HB.out.1.u
  obtain ⟨s2, r2, e2⟩ := HB.out.1.n
  have l1 := fun ty => run_len_chan (P := Tryz.prog) 112 ty Tryz.underlying112 e1
  have l2 := fun ty => run_len_chan (P := Tryz.prog) 112 ty Tryz.underlying112 e2
  rw [vs_size] at l1 l2
  clear hb hh e1 e2
  go_wp2
  go_ret2
  exact ⟨rfl, HB.out⟩
def tkS : List ByteArray → List ByteArray → ByteArray
  | x :: _, _ => x
  | [], x :: _ => x
  | [], [] => ⟨#[]⟩
def tkB (U : List ByteArray) : Bool := !U.isEmpty
def tkE : List ByteArray → List ByteArray → Int
  | [], [] => 6
  | _, _ => 0
def tkN : List ByteArray → List ByteArray → List ByteArray
  | [], N => N.tail
  | _, N => N
set_option maxRecDepth 100000 in
set_option maxHeartbeats 1000000 in
theorem take_any (B cu cn room : Nat) (cl : Bool) (U N : List ByteArray) (w : World) (h : In w B cu cn room cl U N) : Calls Tryz.prog 40 #[.pointer (some ⟨B, 0, none⟩)] w fun e w' => e = .returned (.tuple #[.string (tkS U N), .bool (tkB U), .int .i64 (tkE U N)]) ∧ In w' B cu cn room cl U.tail (tkN U N) ∧ Oth B cu cn w w' := by
  have H : Hid (In w B cu cn room cl U N) := h
  clear h
  go_enter Tryz.func40, Tryz.ntmps40
  go_wp2_with fail
  refine (rows_any B cu cn room cl U N _ H.out).mono ?_
  rintro e w1 ⟨rfl, hb, hh⟩
  have HB : Hid (In w1 B cu cn room cl U N ∧ Oth B cu cn w w1) := ⟨H.out.heap hh, Oth.of hb⟩
  obtain ⟨s1, r1, e1⟩ := HB.out.1.u
  obtain ⟨s2, r2, e2⟩ := HB.out.1.n
  have E1 : Hid (w1.heap[cu]? = some (.chan room (vs U) false s1 r1 false)) := e1
  have E2 : Hid (w1.heap[cn]? = some (.chan room (vs N) false s2 r2 false)) := e2
  clear hb hh e1 e2 H
  cases U with
  | cons x U =>
    go_wp2_with fail
    refine (first_some cu room s1 r1 false false x (vs (x :: U)) _ E1.out (by rw [vs_size]; simp) (vs_head x U)).mono ?_
    rintro e w2 ⟨rfl, hw2⟩
    rw [vs_pop] at hw2
    have HE : Hid (In w2 B cu cn room cl U N ∧ Oth B cu cn w w2) := by rw [hw2]; exact ⟨HB.out.1.setU U _ _, HB.out.2.trans (Oth.chan _ _ _ _ _ _ _ (.inl rfl))⟩
    clear hw2
    go_wp2
    go_ret3
    exact ⟨rfl, HE.out⟩
  | nil =>
    go_wp2_with fail
    refine (first_none cu room s1 r1 false _ E1.out).mono ?_
    rintro e w2 ⟨rfl, rfl⟩
    cases N with
    | cons x N =>
      go_wp2_with fail
      refine (first_some cn room s2 r2 false false x (vs (x :: N)) _ E2.out (by rw [vs_size]; simp) (vs_head x N)).mono ?_
      rintro e w2 ⟨rfl, hw2⟩
      rw [vs_pop] at hw2
      have HE : Hid (In w2 B cu cn room cl [] N ∧ Oth B cu cn w w2) := by rw [hw2]; exact ⟨HB.out.1.setN N _ _, HB.out.2.trans (Oth.chan _ _ _ _ _ _ _ (.inr rfl))⟩
      clear hw2
      go_wp2
      go_ret3
      exact ⟨rfl, HE.out⟩
    | nil =>
      go_wp2_with fail
      refine (first_none cn room s2 r2 false _ E2.out).mono ?_
      rintro e w2 ⟨rfl, rfl⟩
      go_wp2
      go_ret3
      exact ⟨rfl, HB.out⟩
theorem take_nil (w : World) : Calls Tryz.prog 40 #[.pointer none] w fun e w' => e = .returned (.tuple #[.string ⟨#[]⟩, .bool false, .int .i64 6]) ∧ w' = w := by
  go_enter Tryz.func40, Tryz.ntmps40
  go_wp2_with fail
  refine (rows_nil _).mono ?_
  rintro e w1 ⟨rfl, rfl⟩
  go_wp2_with fail
  refine (first_nil _).mono ?_
  rintro e w1 ⟨rfl, rfl⟩
  go_wp2_with fail
  refine (first_nil _).mono ?_
  rintro e w1 ⟨rfl, rfl⟩
  go_wp2
  go_ret3
  exact ⟨rfl, rfl⟩
theorem len_nil (w : World) : Calls Tryz.prog 55 #[.pointer none] w fun e w' => e = .returned (.tuple #[.int .i64 0, .int .i64 0]) ∧ w' = w := by
  go_enter Tryz.func55, Tryz.ntmps55
  go_wp2_with fail
  refine (rows_nil _).mono ?_
  rintro e w1 ⟨rfl, rfl⟩
  have hl : ∀ ty, (Builtin.len_ #[112] ty #[.chan none]).run Tryz.prog w1 = .ok (goInt 0) w1 := fun ty => by simp [Builtin.len_, run_underlying Tryz.underlying112]
  go_wp2
  go_ret2
  exact ⟨rfl, rfl⟩
end Go.Proofs.YtkdhbjmpjbdobaaGreatDoor.Xs
/- PPlain -/
namespace Go.Proofs.YtkdhbjmpjbdobaaGreatDoor.Po
set_option maxRecDepth 100000
namespace Pl

def bit (r : Nat) : Nat := if r % 2 = 1 then r / 2 ^^^ 3988292384 else r / 2
def bitN : Nat → Nat → Nat
  | 0, r => r
  | k + 1, r => bitN k (bit r)
def byte (r c : Nat) : Nat := bitN 8 (r ^^^ c)
def sums (r : Nat) (l : List UInt8) : Nat := l.foldl (fun r b => byte r b.toNat) r
def half (j : Nat) : Nat := bitN 4 j
def crc (l : List UInt8) : Nat := sums 4294967295 l ^^^ 4294967295

theorem xor_lt {a b : Nat} (ha : a < 4294967296) (hb : b < 4294967296) : a ^^^ b < 4294967296 := Nat.xor_lt_two_pow (n := 32) ha hb
theorem bit_lt {r : Nat} (h : r < 4294967296) : bit r < 4294967296 := by
  unfold bit
  split
  · exact xor_lt (by omega) (by decide)
  · omega
theorem bitN_lt : ∀ (k : Nat) {r : Nat}, r < 4294967296 → bitN k r < 4294967296
  | 0, _, h => h
  | k + 1, _, h => bitN_lt k (bit_lt h)
theorem byte_lt {r c : Nat} (hr : r < 4294967296) (hc : c < 256) : byte r c < 4294967296 := bitN_lt 8 (xor_lt hr (by omega))
theorem sums_lt : ∀ (l : List UInt8) {r : Nat}, r < 4294967296 → sums r l < 4294967296
  | [], _, h => h
  | b :: l, _, h => sums_lt l (byte_lt h b.toNat_lt)
theorem crc_lt (l : List UInt8) : crc l < 4294967296 := xor_lt (sums_lt l (by decide)) (by decide)
theorem sums_snoc (r : Nat) (l : List UInt8) (b : UInt8) : sums r (l ++ [b]) = byte (sums r l) b.toNat := by simp [sums]
theorem sums_append (r : Nat) (a b : List UInt8) : sums r (a ++ b) = sums (sums r a) b := by simp [sums]
theorem bitN_add : ∀ (a b r : Nat), bitN (a + b) r = bitN b (bitN a r)
  | 0, b, r => by rw [Nat.zero_add]; rfl
  | a + 1, b, r => by rw [Nat.succ_add]; exact bitN_add a b (bit r)

theorem bit_xor (a b : Nat) : bit (a ^^^ b) = bit a ^^^ bit b := by
  have hd : (a ^^^ b) / 2 = a / 2 ^^^ b / 2 := by
    have := Nat.xor_div_two_pow (a := a) (b := b) (n := 1)
    simpa using this
  have hm : (a ^^^ b) % 2 = (a + b) % 2 := by
    have h := @Nat.xor_mod_two_eq_one a b
    rcases Nat.mod_two_eq_zero_or_one (a ^^^ b) with h0 | h0 <;> rcases Nat.mod_two_eq_zero_or_one a with ha | ha <;> rcases Nat.mod_two_eq_zero_or_one b with hb | hb <;> simp [h0, ha, hb] at h <;> omega
  unfold bit
  rw [hd]
  generalize a / 2 = x
  generalize b / 2 = y
  rcases Nat.mod_two_eq_zero_or_one a with ha | ha <;> rcases Nat.mod_two_eq_zero_or_one b with hb | hb
  · rw [if_neg (by omega), if_neg (by omega), if_neg (by omega)]
  · rw [if_pos (by omega), if_neg (by omega), if_pos (by omega), Nat.xor_assoc]
  · rw [if_pos (by omega), if_pos (by omega), if_neg (by omega), Nat.xor_assoc, Nat.xor_comm y, ← Nat.xor_assoc]
  · rw [if_neg (by omega), if_pos (by omega), if_pos (by omega)]
    rw [Nat.xor_assoc, ← Nat.xor_assoc 3988292384 y, Nat.xor_comm 3988292384 y, Nat.xor_assoc y, Nat.xor_self, Nat.xor_zero]
theorem bitN_xor : ∀ (k a b : Nat), bitN k (a ^^^ b) = bitN k a ^^^ bitN k b
  | 0, _, _ => rfl
  | k + 1, a, b => by
    show bitN k (bit (a ^^^ b)) = bitN k (bit a) ^^^ bitN k (bit b)
    rw [bit_xor, bitN_xor k]
theorem bit_even (q : Nat) : bit (2 * q) = q := by unfold bit; rw [if_neg (by omega)]; omega
theorem bitN4_mul (q : Nat) : bitN 4 (16 * q) = q := by
  show bit (bit (bit (bit (16 * q)))) = q
  rw [show 16 * q = 2 * (2 * (2 * (2 * q))) from by omega, bit_even, bit_even, bit_even, bit_even]
theorem join16 (r : Nat) : r = 16 * (r / 16) ^^^ r % 16 := by
  have h := nat_join 4 (16 * (r / 16)) (r % 16) (by omega) (by omega)
  have e : (16 * (r / 16)) ^^^ (r % 16) = 16 * (r / 16) ||| r % 16 := by
    apply Nat.eq_of_testBit_eq
    intro i
    rw [Nat.testBit_xor, Nat.testBit_or]
    by_cases hi : i < 4
    · have : (16 * (r / 16)).testBit i = false := by
        rw [show 16 = 2 ^ 4 from rfl, Nat.testBit_two_pow_mul]; simp; omega
      simp [this]
    · have : (r % 16).testBit i = false := by
        rw [show 16 = 2 ^ 4 from rfl, Nat.testBit_mod_two_pow]; simp; omega
      simp [this]
  rw [e, h]; omega
theorem half_step (r : Nat) : bitN 4 r = r / 16 ^^^ half (r % 16) := by
  conv => lhs; rw [join16 r]
  rw [bitN_xor, bitN4_mul]
  rfl

/-- the table -/
def tab : List Int := [0, 498536548, 997073096, 651767980, 1994146192, 1802195444, 1303535960, 1342533948, 3988292384, 4027552580, 3604390888, 3412177804, 2607071920, 2262029012, 2685067896, 3183342108]
theorem tab_half : ∀ j : Nat, j < 16 → tab.getD j 0 = (half j : Int) := by decide

theorem wrap_i64 (n : Nat) (h : n < 9223372036854775808) : IntKind.i64.wrap (n : Int) = (n : Int) := by
  have e : (n : Int) % 2 ^ 64 = n := Int.emod_eq_of_lt (by omega) (by omega)
  simp only [IntKind.wrap, IntKind.bits, IntKind.signed, e]
  rw [if_neg]
  simp
  omega
theorem i64_xor (a b : Nat) (ha : a < 4294967296) (hb : b < 4294967296) : bits .xor .i64 (a : Int) (b : Int) = ((a ^^^ b : Nat) : Int) := by
  have hx := xor_lt ha hb
  show IntKind.i64.wrap ((BitVec.ofInt 64 (a : Int) ^^^ BitVec.ofInt 64 (b : Int)).toNat : Int) = _
  rw [BitVec.toNat_xor, ofInt_u64 a (by omega), ofInt_u64 b (by omega), wrap_i64 _ (by omega)]
theorem not_eq (r : Nat) (h : r < 4294967296) : 4294967295 - r = r ^^^ 4294967295 := by
  have : (4294967295 - r) ^^^ r = 4294967295 := by
    have hb : ∀ i, (4294967295 - r).testBit i = (decide (i < 32) && !r.testBit i) := by
      intro i
      have := Nat.testBit_two_pow_sub_succ (x := r) (n := 32) (by simpa using h) i
      rw [show (2 : Nat) ^ 32 - (r + 1) = 4294967295 - r from by omega] at this
      exact this
    apply Nat.eq_of_testBit_eq
    intro i
    rw [Nat.testBit_xor, hb i, show (4294967295 : Nat) = 2 ^ 32 - 1 from rfl, Nat.testBit_two_pow_sub_one]
    by_cases hi : i < 32
    · cases r.testBit i <;> simp [hi]
    · have : r.testBit i = false := Nat.testBit_lt_two_pow (Nat.lt_of_lt_of_le (by simpa using h) (Nat.pow_le_pow_right (by decide) (Nat.le_of_not_lt hi)))
      simp [hi, this]
  calc 4294967295 - r = ((4294967295 - r) ^^^ r) ^^^ r := by rw [Nat.xor_assoc, Nat.xor_self, Nat.xor_zero]
    _ = r ^^^ 4294967295 := by rw [this, Nat.xor_comm]
end Pl
end Go.Proofs.YtkdhbjmpjbdobaaGreatDoor.Po
/- PSum -/
namespace Go.Proofs.YtkdhbjmpjbdobaaGreatDoor.Po
open Go.ChangeShapes Go.WideShapes Go.ChangeAt Go.RowKit
set_option maxRecDepth 100000

theorem bits_step_odd (x : Nat) (hx : x < 4294967296) : bits .xor .i64 ((x : Int) / 2) 3988292384 = ((x / 2 ^^^ 3988292384 : Nat) : Int) := by
  have := Pl.i64_xor (x / 2) 3988292384 (by omega) (by decide)
  simpa using this

theorem bitN_succ (k r : Nat) : Pl.bitN (k + 1) r = Pl.bit (Pl.bitN k r) := Pl.bitN_add k 1 r

set_option maxHeartbeats 400000 in
theorem bits_any (r c : Nat) (w : World) (hr : r < 4294967296) (hc : c < 256) :
    Calls Tryz.prog 156 #[.int .i64 r, .int .i64 c] w fun e w' => e = .returned (.int .i64 (Pl.byte r c)) ∧ w' = w := by
  have hx0 := Pl.i64_xor r c hr (by omega)
  have HB : Hid (∀ k, Pl.bitN k (r ^^^ c) < 4294967296) := fun k => Pl.bitN_lt k (Pl.xor_lt hr (by omega))
  have HP : Hid (Pl.byte r c = Pl.bitN 8 (r ^^^ c)) := rfl
  obtain ⟨y, hy⟩ : ∃ y, r ^^^ c = y := ⟨_, rfl⟩
  rw [hy] at hx0 HB HP
  clear hy
  go_enter Tryz.func156, Tryz.ntmps156
  go_wp2
  go_loop [0, 5] (fun t i => ∃ k : Nat, k ≤ 8 ∧ i = .int .i64 k ∧ t = .int .i64 (Pl.bitN k y)) (fun _ i => 8 - (intOf i).toNat)
  case atStart => exact ⟨0, by omega, rfl, rfl⟩
  case round =>
    obtain ⟨k, hk, rfl, rfl⟩ := hrel
    have hx := HB.out k
    have HS := bitN_succ k y
    by_cases hlt : k < 8
    · generalize hq : Pl.bitN k y = x at *
      have HX : Hid (Pl.bitN (k + 1) y = Pl.bit x) := HS
      clear HS hq hx0
      have ho := bits_step_odd x hx
      by_cases hp : x % 2 = 1
      · have HE : Hid (Pl.bit x = x / 2 ^^^ 3988292384) := by show Pl.bit x = _; unfold Pl.bit; rw [if_pos hp]
        have hp' : ((x : Int) % 2 == 1) = true := by simp; omega
        clear hp
        go_wp2
        go_round
        case rel => exact ⟨k + 1, by omega, by go_num, by rw [HX.out, HE.out]⟩
        case measure => simp [intOf]; omega
      · have HE : Hid (Pl.bit x = x / 2) := by show Pl.bit x = _; unfold Pl.bit; rw [if_neg hp]
        have hp' : ((x : Int) % 2 == 1) = false := by simp; omega
        clear hp
        go_wp2
        go_round
        case rel => exact ⟨k + 1, by omega, by go_num, by rw [HX.out, HE.out]; go_num⟩
        case measure => simp [intOf]; omega
    · obtain rfl : k = 8 := by omega
      clear HS hx0
      go_wp2
      go_ret
      rw [HP.out]
      exact ⟨rfl, rfl⟩

theorem take_snoc (s : ByteArray) (k : Nat) (h : k < s.size) : s.data.toList.take (k + 1) = s.data.toList.take k ++ [s[k]] := by
  rw [List.take_succ_eq_append_getElem (by simpa using h)]; rfl
theorem i64_not (x : Nat) (hx : x < 4294967296) : bits .xor .i64 (x : Int) 4294967295 = ((x ^^^ 4294967295 : Nat) : Int) := Pl.i64_xor x 4294967295 hx (by decide)

set_option maxHeartbeats 400000 in
theorem refSum_any (s : ByteArray) (w : World) (hs : s.size ≤ maxLen) :
    Calls Tryz.prog 135 #[.string s] w fun e w' => e = .returned (.int .i64 (Pl.crc s.data.toList)) ∧ w' = w := by
  unfold maxLen at hs
  have HL : Hid (∀ k, Pl.sums 4294967295 (s.data.toList.take k) < 4294967296) := fun k => Pl.sums_lt _ (by decide)
  have HC : Hid (Pl.crc s.data.toList = Pl.sums 4294967295 s.data.toList ^^^ 4294967295) := rfl
  go_enter Tryz.func135, Tryz.ntmps135
  go_wp2
  go_loop [3, 4] (fun t i => ∃ k : Nat, k ≤ s.size ∧ i = .int .i64 k ∧ t = .int .i64 (Pl.sums 4294967295 (s.data.toList.take k))) (fun _ i => s.size - (intOf i).toNat)
  case atStart => exact ⟨0, by omega, rfl, rfl⟩
  case round =>
    obtain ⟨k, hk, rfl, rfl⟩ := hrel
    have hx := HL.out k
    by_cases hlt : k < s.size
    · have HS : Hid (Pl.sums 4294967295 (s.data.toList.take (k + 1)) = Pl.byte (Pl.sums 4294967295 (s.data.toList.take k)) (s[k]'hlt).toNat) := by
        show _ = _
        rw [take_snoc s k hlt, Pl.sums_snoc]
      generalize Pl.sums 4294967295 (s.data.toList.take k) = x at *
      have hb := (s[k]'hlt).toNat_lt
      go_wp2_with fail
      refine (bits_any x (s[k]'hlt).toNat _ hx hb).mono ?_
      rintro e w' ⟨rfl, rfl⟩
      go_wp2
      go_round
      case rel => exact ⟨k + 1, by omega, by go_num, by rw [HS.out]⟩
      case measure => simp [intOf]; omega
    · obtain rfl : k = s.size := by omega
      rw [List.take_of_length_le (by simp)] at hx ⊢
      generalize hq : Pl.sums 4294967295 s.data.toList = x at *
      clear hq
      have hn := i64_not x hx
      go_wp2
      go_ret
      rw [HC.out]
      exact ⟨rfl, rfl⟩

/-- The table lies in the world. -/
def Tab (w : World) : Prop := ∀ j, j < 16 → w.cell? ⟨0, j, none⟩ = some (.int .u32 (Pl.half j : Int))

theorem u32_xor (a b : Nat) (ha : a < 4294967296) (hb : b < 4294967296) : bits .xor .u32 (a : Int) (b : Int) = ((a ^^^ b : Nat) : Int) := u32_xor_nat a b ha hb
theorem u32_low (x : Nat) (hx : x < 4294967296) : bits .and .u32 (x : Int) 15 = ((x % 16 : Nat) : Int) := by
  have := u32_and_nat x 15 hx (by decide)
  rw [nat_mask4] at this
  exact this

theorem u32_not (x : Nat) (hx : x < 4294967296) : bits .xor .u32 IntKind.u32.max (x : Int) = ((x ^^^ 4294967295 : Nat) : Int) := by
  have h := u32_xor_nat 4294967295 x (by decide) hx
  rw [Nat.xor_comm]
  exact h

theorem u32_step (y h : Nat) (hy : y < 4294967296) (hh : h < 4294967296) : bits .xor .u32 ((y : Int) / 16) (h : Int) = ((y / 16 ^^^ h : Nat) : Int) := by
  have := u32_xor (y / 16) h (by omega) hh
  simpa using this

set_option maxHeartbeats 1000000 in
theorem goOn_any (r : Nat) (s : ByteArray) (w : World) (hr : r < 4294967296) (hs : s.size ≤ maxLen) (ht : Tab w) :
    Calls Tryz.prog 87 #[.int .u32 r, .string s] w fun e w' => e = .returned (.int .u32 (Pl.sums (r ^^^ 4294967295) s.data.toList ^^^ 4294967295 : Nat)) ∧ w' = w := by
  unfold maxLen at hs
  have hn0 := u32_not r hr
  have HT : Hid (Tab w) := ht
  have hr' := Pl.xor_lt hr (show 4294967295 < 4294967296 by decide)
  generalize hq : r ^^^ 4294967295 = q at *
  clear hq
  have HL : Hid (∀ k, Pl.sums q (s.data.toList.take k) < 4294967296) := fun k => Pl.sums_lt _ hr'
  clear ht hr
  go_enter Tryz.func87, Tryz.ntmps87
  go_wp2
  clear hn0
  go_loop [5, 11] (fun t i => ∃ k : Nat, k ≤ s.size ∧ i = .int .i64 k ∧ t = .int .u32 (Pl.sums q (s.data.toList.take k))) (fun _ i => s.size - (intOf i).toNat)
  case atStart => exact ⟨0, by omega, rfl, rfl⟩
  case round =>
    obtain ⟨k, hk, rfl, rfl⟩ := hrel
    have hx := HL.out k
    by_cases hlt : k < s.size
    · have HS : Hid (Pl.sums q (s.data.toList.take (k + 1)) = Pl.byte (Pl.sums q (s.data.toList.take k)) (s[k]'hlt).toNat) := by
        show _ = _
        rw [take_snoc s k hlt, Pl.sums_snoc]
      generalize Pl.sums q (s.data.toList.take k) = x at *
      have hb := (s[k]'hlt).toNat_lt
      have x0 := u32_xor x (s[k]'hlt).toNat hx (by omega)
      have hy := Pl.xor_lt hx (show (s[k]'hlt).toNat < 4294967296 by omega)
      have HB : Hid (Pl.byte x (s[k]'hlt).toNat = Pl.bitN 4 (Pl.bitN 4 (x ^^^ (s[k]'hlt).toNat))) := Pl.bitN_add 4 4 _
      generalize hyy : x ^^^ (s[k]'hlt).toNat = y at *
      clear hyy
      have HB1 : Hid (Pl.bitN 4 y = y / 16 ^^^ Pl.half (y % 16)) := Pl.half_step y
      have l0 := u32_low y hy
      have c0 := HT.out (y % 16) (by omega)
      have hh0 : Pl.half (y % 16) < 4294967296 := Pl.bitN_lt 4 (by omega)
      generalize Pl.half (y % 16) = h0 at *
      have x1 := u32_step y h0 hy hh0
      have hz := Pl.xor_lt (show y / 16 < 4294967296 by omega) hh0
      generalize hzz : y / 16 ^^^ h0 = z at *
      clear hzz
      have HB2 : Hid (Pl.bitN 4 z = z / 16 ^^^ Pl.half (z % 16)) := Pl.half_step z
      have l1 := u32_low z hz
      have c1 := HT.out (z % 16) (by omega)
      have hh1 : Pl.half (z % 16) < 4294967296 := Pl.bitN_lt 4 (by omega)
      generalize Pl.half (z % 16) = h1 at *
      have x2 := u32_step z h1 hz hh1
      generalize hvv : z / 16 ^^^ h1 = v at *
      clear hvv
      go_wp2
      go_round
      case rel => exact ⟨k + 1, by omega, by go_num, by rw [HS.out, HB.out, HB1.out, HB2.out]⟩
      case measure => simp [intOf]; omega
    · obtain rfl : k = s.size := by omega
      rw [List.take_of_length_le (by simp)] at hx ⊢
      generalize hq2 : Pl.sums q s.data.toList = x at *
      have HQ : Hid (Pl.sums q s.data.toList = x) := hq2
      clear hq2
      have hn := u32_not x hx
      go_wp2
      go_ret
      rw [HQ.out]
      exact ⟨rfl, rfl⟩

end Go.Proofs.YtkdhbjmpjbdobaaGreatDoor.Po
