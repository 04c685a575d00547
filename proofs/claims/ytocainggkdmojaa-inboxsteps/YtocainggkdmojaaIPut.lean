/-
  inbox.Put: what it answers, what it leaves.
-/
import Derived.Test.YtocainggkdmojaaIBase
namespace Go.Proofs.Ytocainggkdmojaa
open Go.Conc Go.RowKit Go.ChangeShapes Go.WideShapes Go.ChangeAt
theorem goes_enter {P : Program} {main : Bool} {b : Frame} {a : Act} {k : List Item} {cs : List Frame} {w : World} {ops : Array Oper} {i : Nat} {rest : List Nat} {o : Oper} {K : Goroutine → World → Array Event → Prop} {f : FuncId} {fn : Func} {c : Code} {args : Array Operand} {ats : Array TypeId} (vals : Array Value)
    (ho : ops[i]? = some o) (hw : Region.wanted o (yielded ops a.tmps) = true) (hk : b.kind ≠ .early) (hop : o.op = .call { callee := .value (.func f), args, argTypes := ats })
    (hf : P.funcs[f]? = some fn) (hname : (fn.name == "runtime.NumGoroutine") = false) (hb : fn.body = some c) (hv : args.map a.eval = vals)
    (h : K (G (Frame.enter P f vals .normal) (b.at a (.inRegion ops (i :: rest) :: k) :: cs)) w #[]) :
    (stepG P main (G (b.at a (.inRegion ops (i :: rest) :: k)) cs) w).goes K :=
  goes_call ho hw hk hop hf hname hb (by rw [← enter_at _ hf hb, hv]; exact h)
theorem enter_put (v b s : Value) : Frame.enter Try.prog 11 #[v, b, s] .normal = (base 11).at ⟨#[v, b, s, undef, undef, undef, undef, undef, undef, undef, undef, undef, undef, undef, undef, undef], []⟩ [.code (Try.f11.body.getD .skip)] := by
  simp [Frame.enter, Frame.at, Try.func11, base, Try.f11]
/-- Up to isClosed's answer. -/
theorem put_shut (p : Option Addr) (b : Bool) (s : ByteArray) (w : World) (hc : Calls Try.prog 20 #[.pointer p] w fun e w' => e = .returned (.bool true) ∧ w' = w) : Calls Try.prog 11 #[.pointer p, .bool b, .string s] w fun e w' => e = .returned (.int .i64 7) ∧ w' = w := by
  have H : Hid (Calls Try.prog 20 #[.pointer p] w fun e w' => e = .returned (.bool true) ∧ w' = w) := hc
  clear hc
  go_enter Try.func11, Try.ntmps11
  go_wp2_with fail
  refine H.out.mono ?_
  rintro e w' ⟨rfl, rfl⟩
  go_wp2
  go_ret
  exact ⟨rfl, rfl⟩
set_option maxRecDepth 100000 in
theorem put_full (B c cap s r : Nat) (b : Bool) (buf : Array Value) (x : ByteArray) (w : World) (h1 : Calls Try.prog 20 #[.pointer (some ⟨B, 0, none⟩)] w fun e w' => e = .returned (.bool false) ∧ w' = w)
    (h2 : Calls Try.prog 21 #[.pointer (some ⟨B, 0, none⟩), .bool b] w fun e w' => e = .returned (.chan (some c)) ∧ Below w.heap.size w w' ∧ w'.heap = w.heap) (hc : w.heap[c]? = some (.chan cap buf false s r false)) (hf : cap ≤ buf.size) :
    Calls Try.prog 11 #[.pointer (some ⟨B, 0, none⟩), .bool b, .string x] w fun e w' => e = .returned (.int .i64 5) ∧ Below w.heap.size w w' ∧ w'.heap = w.heap := by
  refine calls_of_loneTo fun cs => ?_
  rw [enter_put]
  refine LoneTo.goes (n := 60) ?_
  simp only [Try.f11, Option.getD_some]
  repeat (first | s_c stepG_seq | s_c stepG_block | s_c stepG_skip)
  s_reg
  s_op
  s_c stepG_region_end
  repeat (first | s_c stepG_seq | s_c stepG_block | s_c stepG_skip)
  s_reg
  s_op
  (s_in; refine goes_enter #[.pointer (some ⟨B, 0, none⟩)] rfl rfl (by decide) rfl Try.func20 (by rfl) rfl (by simp [Act.eval]) ⟨trivial, ?_⟩)
  s_stop
  refine thru h1 (by rintro e w' ⟨rfl, -⟩; exact ⟨_, rfl⟩) ?_
  rintro v w' ⟨e, rfl⟩
  obtain rfl := Ending.returned.inj e
  clear e
  rw [Frame.finish_at]
  walk_nrm
  refine LoneTo.goes (n := 60) ?_
  s_c stepG_region_end
  s_cond false
  repeat (first | s_c stepG_seq | s_c stepG_block | s_c stepG_skip)
  s_reg
  s_op
  s_op
  (s_in; refine goes_enter #[.pointer (some ⟨B, 0, none⟩), .bool b] rfl rfl (by decide) rfl Try.func21 (by rfl) rfl (by simp [Act.eval]) ⟨trivial, ?_⟩)
  s_stop
  refine thru h2 (by rintro e w' ⟨rfl, -⟩; exact ⟨_, rfl⟩) ?_
  rintro v w1 ⟨e, hb1, hh1⟩
  obtain rfl := Ending.returned.inj e
  clear e
  rw [Frame.finish_at]
  walk_nrm
  refine LoneTo.goes (n := 60) ?_
  s_c stepG_region_end
  repeat (first | s_c stepG_seq | s_c stepG_block | s_c stepG_skip)
  s_reg
  s_op
  s_c stepG_region_end
  repeat (first | s_c stepG_seq | s_c stepG_block | s_c stepG_skip)
  s_reg
  s_stop
  refine LoneTo.step (step_lone_select_send_full (c := c) (cap := cap) (buf := buf) (s := s) (r := r) (tm := false) (stepG_comm (cases := #[scase c (.string x) (.string ⟨#[]⟩)]) (blocking := false) (shape := .select) (w' := w1) rfl rfl (by decide) (by simp [go_sem, execOp, scase, Act.eval])) (by rw [hh1]; exact hc) hf) ?_
  rw [Frame.finish_at]
  walk_nrm
  refine LoneTo.goes (n := 60) ?_
  s_op
  s_op
  s_c stepG_region_end
  s_c stepG_block
  s_cond false
  repeat (first | s_c stepG_seq | s_c stepG_block | s_c stepG_skip)
  s_reg
  s_op
  s_c stepG_region_end
  repeat (first | s_c stepG_seq | s_c stepG_block | s_c stepG_skip)
  s_c stepG_ret'
  s_stop
  exact LoneTo.done ⟨_, _, rfl, ⟨rfl, hb1, hh1⟩, rfl, rfl, rfl, rfl, _, Try.func11, by simp [results, Try.f11, Frame.at]⟩
set_option maxRecDepth 100000 in
theorem put_room (B c cap s r : Nat) (b : Bool) (buf : Array Value) (x : ByteArray) (w : World) (h1 : Calls Try.prog 20 #[.pointer (some ⟨B, 0, none⟩)] w fun e w' => e = .returned (.bool false) ∧ w' = w)
    (h2 : Calls Try.prog 21 #[.pointer (some ⟨B, 0, none⟩), .bool b] w fun e w' => e = .returned (.chan (some c)) ∧ Below w.heap.size w w' ∧ w'.heap = w.heap) (hc : w.heap[c]? = some (.chan cap buf false s r false)) (hf : buf.size < cap) :
    Calls Try.prog 11 #[.pointer (some ⟨B, 0, none⟩), .bool b, .string x] w fun e w' => e = .returned (.int .i64 0) ∧ ∃ w1, (Below w.heap.size w w1 ∧ w1.heap = w.heap) ∧ w' = w1.setChan c cap (buf.push (.string x)) false (s + 1) r false := by
  refine calls_of_loneTo fun cs => ?_
  rw [enter_put]
  refine LoneTo.goes (n := 60) ?_
  simp only [Try.f11, Option.getD_some]
  repeat (first | s_c stepG_seq | s_c stepG_block | s_c stepG_skip)
  s_reg
  s_op
  s_c stepG_region_end
  repeat (first | s_c stepG_seq | s_c stepG_block | s_c stepG_skip)
  s_reg
  s_op
  (s_in; refine goes_enter #[.pointer (some ⟨B, 0, none⟩)] rfl rfl (by decide) rfl Try.func20 (by rfl) rfl (by simp [Act.eval]) ⟨trivial, ?_⟩)
  s_stop
  refine thru h1 (by rintro e w' ⟨rfl, -⟩; exact ⟨_, rfl⟩) ?_
  rintro v w' ⟨e, rfl⟩
  obtain rfl := Ending.returned.inj e
  clear e
  rw [Frame.finish_at]
  walk_nrm
  refine LoneTo.goes (n := 60) ?_
  s_c stepG_region_end
  s_cond false
  repeat (first | s_c stepG_seq | s_c stepG_block | s_c stepG_skip)
  s_reg
  s_op
  s_op
  (s_in; refine goes_enter #[.pointer (some ⟨B, 0, none⟩), .bool b] rfl rfl (by decide) rfl Try.func21 (by rfl) rfl (by simp [Act.eval]) ⟨trivial, ?_⟩)
  s_stop
  refine thru h2 (by rintro e w' ⟨rfl, -⟩; exact ⟨_, rfl⟩) ?_
  rintro v w1 ⟨e, hb1, hh1⟩
  obtain rfl := Ending.returned.inj e
  clear e
  rw [Frame.finish_at]
  walk_nrm
  refine LoneTo.goes (n := 60) ?_
  s_c stepG_region_end
  repeat (first | s_c stepG_seq | s_c stepG_block | s_c stepG_skip)
  s_reg
  s_op
  s_c stepG_region_end
  repeat (first | s_c stepG_seq | s_c stepG_block | s_c stepG_skip)
  s_reg
  s_stop
  refine LoneTo.step (step_lone_select_send_room (c := c) (cap := cap) (buf := buf) (s := s) (r := r) (tm := false) (stepG_comm (cases := #[scase c (.string x) (.string ⟨#[]⟩)]) (blocking := false) (shape := .select) (w' := w1) rfl rfl (by decide) (by simp [go_sem, execOp, scase, Act.eval])) (by rw [hh1]; exact hc) hf) ?_
  rw [Frame.finish_at]
  walk_nrm
  refine LoneTo.goes (n := 60) ?_
  s_op
  s_op
  s_c stepG_region_end
  s_c stepG_block
  s_cond true
  repeat (first | s_c stepG_seq | s_c stepG_block | s_c stepG_skip)
  s_reg
  s_op
  s_c stepG_region_end
  repeat (first | s_c stepG_seq | s_c stepG_block | s_c stepG_skip)
  s_c stepG_ret'
  s_stop
  exact LoneTo.done ⟨_, _, rfl, ⟨rfl, w1, ⟨hb1, hh1⟩, rfl⟩, rfl, rfl, rfl, rfl, _, Try.func11, by simp [results, Try.f11, Frame.at]⟩
/-- What Put answers, and the row behind it. -/
def putE (cl : Bool) (room : Nat) (l : List ByteArray) : Int := if cl then 7 else if l.length < room then 0 else 5
def putL (cl : Bool) (room : Nat) (l : List ByteArray) (x : ByteArray) : List ByteArray := if cl then l else if l.length < room then l ++ [x] else l
theorem In.heap {w w' : World} {B cu cn room : Nat} {cl : Bool} {U N : List ByteArray} (h : In w B cu cn room cl U N) (e : w'.heap = w.heap) : In w' B cu cn room cl U N := h.up (by rw [e]) (by rw [e]) (by rw [e])
theorem put_any (B cu cn room : Nat) (cl b : Bool) (U N : List ByteArray) (x : ByteArray) (w : World) (h : In w B cu cn room cl U N) : Calls Try.prog 11 #[.pointer (some ⟨B, 0, none⟩), .bool b, .string x] w fun e w' => e = .returned (.int .i64 (if b then putE cl room U else putE cl room N)) ∧ In w' B cu cn room cl (if b then putL cl room U x else U) (if b then N else putL cl room N x) ∧ Oth B cu cn w w' := by
  cases cl with
  | true =>
    refine (put_shut _ b x w (closed_any B cu cn room true U N w h)).mono ?_
    rintro e w' ⟨rfl, rfl⟩
    cases b <;> exact ⟨rfl, h, Oth.refl _ _ _ _⟩
  | false =>
    have h1 := closed_any B cu cn room false U N w h
    have h2 := row_any b B cu cn room false U N w h
    obtain ⟨s1, r1, e1⟩ := h.u
    obtain ⟨s2, r2, e2⟩ := h.n
    cases b with
    | true =>
      by_cases hl : U.length < room
      · refine (put_room B cu room s1 r1 true (vs U) x w h1 h2 e1 (by rw [vs_size]; exact hl)).mono ?_
        rintro e w' ⟨rfl, w1, ⟨hb, hh⟩, rfl⟩
        rw [vs_push]
        refine ⟨by simp [putE, hl], ?_, (Oth.of hb).trans (Oth.chan _ _ _ _ _ _ _ (.inl rfl))⟩
        simp only [putL, hl, if_true, Bool.false_eq_true, if_false]
        exact (h.heap hh).setU _ _ _
      · refine (put_full B cu room s1 r1 true (vs U) x w h1 h2 e1 (by rw [vs_size]; omega)).mono ?_
        rintro e w' ⟨rfl, hb, hh⟩
        refine ⟨by simp [putE, hl], ?_, Oth.of hb⟩
        simp only [putL, hl, if_true, Bool.false_eq_true, if_false]
        exact h.heap hh
    | false =>
      by_cases hl : N.length < room
      · refine (put_room B cn room s2 r2 false (vs N) x w h1 h2 e2 (by rw [vs_size]; exact hl)).mono ?_
        rintro e w' ⟨rfl, w1, ⟨hb, hh⟩, rfl⟩
        rw [vs_push]
        refine ⟨by simp [putE, hl], ?_, (Oth.of hb).trans (Oth.chan _ _ _ _ _ _ _ (.inr rfl))⟩
        simp only [putL, hl, if_true, Bool.false_eq_true, if_false]
        exact (h.heap hh).setN _ _ _
      · refine (put_full B cn room s2 r2 false (vs N) x w h1 h2 e2 (by rw [vs_size]; omega)).mono ?_
        rintro e w' ⟨rfl, hb, hh⟩
        refine ⟨by simp [putE, hl], ?_, Oth.of hb⟩
        simp only [putL, hl, Bool.false_eq_true, if_false]
        exact h.heap hh
end Go.Proofs.Ytocainggkdmojaa
