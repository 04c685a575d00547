/-
  An inbox in memory; New, isClosed, rows, row, Put, Len, Close, Take of it and of a nil one.
-/
import Derived.Test.YtocainggkdmojaaIFirst
import Derived.Conc.LoneSelectN
namespace Go.Proofs.Ytocainggkdmojaa
open Go.Conc Go.RowKit Go.ChangeShapes Go.WideShapes Go.ChangeAt
def vs (l : List ByteArray) : Array Value := (l.map Value.string).toArray
theorem vs_size (l : List ByteArray) : (vs l).size = l.length := by simp [vs]
theorem vs_push (l : List ByteArray) (x : ByteArray) : (vs l).push (.string x) = vs (l ++ [x]) := by simp [vs]
theorem vs_pop (x : ByteArray) (l : List ByteArray) : (vs (x :: l)).extract 1 (vs (x :: l)).size = vs l := by
  simp [vs, List.extract]
  exact List.take_of_length_le (by simp)
theorem vs_head (x : ByteArray) (l : List ByteArray) : (vs (x :: l)).getD 0 undef = .string x := by simp [vs]
/-- An inbox: its box, its rows. -/
structure In (w : World) (B cu cn room : Nat) (cl : Bool) (U N : List ByteArray) : Prop where
  bx : w.heap[B]? = some (.cells #[.chan (some cu), .chan (some cn), .bool cl] 49)
  u : ∃ s r, w.heap[cu]? = some (.chan room (vs U) false s r false)
  n : ∃ s r, w.heap[cn]? = some (.chan room (vs N) false s r false)
  ne : cu ≠ cn
theorem In.up {w w' : World} {B cu cn room : Nat} {cl : Bool} {U N : List ByteArray} (h : In w B cu cn room cl U N) (h1 : w'.heap[B]? = w.heap[B]?) (h2 : w'.heap[cu]? = w.heap[cu]?) (h3 : w'.heap[cn]? = w.heap[cn]?) : In w' B cu cn room cl U N :=
  ⟨h1.trans h.bx, let ⟨s, r, e⟩ := h.u; ⟨s, r, h2.trans e⟩, let ⟨s, r, e⟩ := h.n; ⟨s, r, h3.trans e⟩, h.ne⟩
theorem In.cells {w : World} {B cu cn room : Nat} {cl : Bool} {U N : List ByteArray} (h : In w B cu cn room cl U N) : w.cell? ⟨B, 0, none⟩ = some (.chan (some cu)) ∧ w.cell? ⟨B, 1, none⟩ = some (.chan (some cn)) ∧ w.cell? ⟨B, 2, none⟩ = some (.bool cl) := by
  refine ⟨?_, ?_, ?_⟩ <;> simp [World.cell?, h.bx]
theorem setChan_other (w : World) (c c' cap : Nat) (buf : Array Value) (closed : Bool) (s r : Nat) (tm : Bool) (h : c ≠ c') : (w.setChan c cap buf closed s r tm).heap[c']? = w.heap[c']? := by
  simp [World.setChan, Array.getElem?_setIfInBounds_ne h]
/-- Nothing is turned but the three blocks of an inbox. -/
structure Oth (B cu cn : Nat) (w w' : World) : Prop where
  os : w'.os = w.os
  tape : w'.tape = w.tape
  output : w'.output = w.output
  size : w.heap.size ≤ w'.heap.size
  block : ∀ k, k < w.heap.size → k ≠ B → k ≠ cu → k ≠ cn → w'.heap[k]? = w.heap[k]?
theorem Oth.refl (B cu cn : Nat) (w : World) : Oth B cu cn w w := ⟨rfl, rfl, rfl, Nat.le_refl _, fun _ _ _ _ _ => rfl⟩
theorem Oth.trans {B cu cn : Nat} {w w1 w2 : World} (h : Oth B cu cn w w1) (k : Oth B cu cn w1 w2) : Oth B cu cn w w2 :=
  ⟨k.os.trans h.os, k.tape.trans h.tape, k.output.trans h.output, Nat.le_trans h.size k.size, fun q hq a b c => (k.block q (Nat.lt_of_lt_of_le hq h.size) a b c).trans (h.block q hq a b c)⟩
theorem Oth.of {B cu cn : Nat} {w w' : World} (h : Below w.heap.size w w') : Oth B cu cn w w' := ⟨h.os, h.tape, h.output, h.size, fun q hq _ _ _ => h.block q hq⟩
theorem Oth.below {B cu cn n : Nat} {w0 w w' : World} (h : Oth B cu cn w w') (h0 : Below n w0 w) (hn : n ≤ w.heap.size) (h1 : n ≤ B) (h2 : n ≤ cu) (h3 : n ≤ cn) : Below n w0 w' :=
  ⟨h.os.trans h0.os, h.tape.trans h0.tape, h.output.trans h0.output, Nat.le_trans h0.size h.size, fun k hk => (h.block k (by omega) (by omega) (by omega) (by omega)).trans (h0.block k hk)⟩
theorem Oth.chan {B cu cn : Nat} {w : World} (c cap : Nat) (buf : Array Value) (cl : Bool) (s r : Nat) (tm : Bool) (h : c = cu ∨ c = cn) : Oth B cu cn w (w.setChan c cap buf cl s r tm) :=
  ⟨rfl, rfl, rfl, by simp [World.setChan], fun k _ _ h2 h3 => setChan_other _ _ _ _ _ _ _ _ _ (by rcases h with rfl | rfl <;> omega)⟩
theorem In.setU {w : World} {B cu cn room : Nat} {cl : Bool} {U N : List ByteArray} (h : In w B cu cn room cl U N) (U' : List ByteArray) (s r : Nat) : In (w.setChan cu room (vs U') false s r false) B cu cn room cl U' N := by
  obtain ⟨s1, r1, e1⟩ := h.u
  obtain ⟨s2, r2, e2⟩ := h.n
  have hne : cu ≠ B := fun e => by rw [e, h.bx] at e1; cases e1
  exact ⟨(setChan_other _ _ _ _ _ _ _ _ _ hne).trans h.bx, ⟨s, r, heap_setChan _ _ _ _ _ _ _ _ (Array.getElem?_eq_some_iff.1 e1).1⟩, ⟨s2, r2, (setChan_other _ _ _ _ _ _ _ _ _ h.ne).trans e2⟩, h.ne⟩
theorem In.setN {w : World} {B cu cn room : Nat} {cl : Bool} {U N : List ByteArray} (h : In w B cu cn room cl U N) (N' : List ByteArray) (s r : Nat) : In (w.setChan cn room (vs N') false s r false) B cu cn room cl U N' := by
  obtain ⟨s1, r1, e1⟩ := h.u
  obtain ⟨s2, r2, e2⟩ := h.n
  have hne : cn ≠ B := fun e => by rw [e, h.bx] at e2; cases e2
  exact ⟨(setChan_other _ _ _ _ _ _ _ _ _ hne).trans h.bx, ⟨s1, r1, (setChan_other _ _ _ _ _ _ _ _ _ (Ne.symm h.ne)).trans e1⟩, ⟨s, r, heap_setChan _ _ _ _ _ _ _ _ (Array.getElem?_eq_some_iff.1 e2).1⟩, h.ne⟩
@[go_sem] theorem chan_not_nil (c : Nat) (w : World) : (binOp BinOp.eql 47 (.chan (some c)) (.chan none)).run Try.prog w = .ok (.bool false) w := by
  have e : (Op.equalIn 10000 47 (.chan (some c)) (.chan none)).run Try.prog w = .ok false w := by
    rw [show (10000 : Nat) = 9999 + 1 from rfl, Op.equalIn]
    simp only [Sem.run_bind, run_underlying Try.underlying47, Result.andThen_ok]
    rfl
  have e2 : (binOp BinOp.eql 47 (.chan (some c)) (.chan none)).run Try.prog w = ((Op.equalIn 10000 47 (.chan (some c)) (.chan none)).run Try.prog w).andThen fun b w' => .ok (.bool b) w' := rfl
  rw [e2, e]
  rfl
theorem closed_nil (w : World) : Calls Try.prog 20 #[.pointer none] w fun e w' => e = .returned (.bool true) ∧ w' = w := by
  go_enter Try.func20, Try.ntmps20
  go_wp2
  go_ret
  exact ⟨rfl, rfl⟩
theorem closed_any (B cu cn room : Nat) (cl : Bool) (U N : List ByteArray) (w : World) (h : In w B cu cn room cl U N) : Calls Try.prog 20 #[.pointer (some ⟨B, 0, none⟩)] w fun e w' => e = .returned (.bool cl) ∧ w' = w := by
  obtain ⟨c0, c1, c2⟩ := h.cells
  clear h
  cases cl <;>
  · go_enter Try.func20, Try.ntmps20
    go_wp2
    go_ret
    exact ⟨rfl, rfl⟩
theorem rows_nil (w : World) : Calls Try.prog 19 #[.pointer none] w fun e w' => e = .returned (.tuple #[.chan none, .chan none]) ∧ w' = w := by
  go_enter Try.func19, Try.ntmps19
  go_wp2
  go_ret2
  exact ⟨rfl, rfl⟩
theorem rows_any (B cu cn room : Nat) (cl : Bool) (U N : List ByteArray) (w : World) (h : In w B cu cn room cl U N) : Calls Try.prog 19 #[.pointer (some ⟨B, 0, none⟩)] w fun e w' => e = .returned (.tuple #[.chan (some cu), .chan (some cn)]) ∧ Below w.heap.size w w' ∧ w'.heap = w.heap := by
  obtain ⟨c0, c1, c2⟩ := h.cells
  clear h
  go_enter Try.func19, Try.ntmps19
  go_wp2
  go_region
  all_goals
    go_wp2
    go_ret2
    exact ⟨rfl, ⟨rfl, rfl, rfl, Nat.le_refl _, fun _ _ => rfl⟩, rfl⟩
theorem row_nil (b : Bool) (w : World) : Calls Try.prog 21 #[.pointer none, .bool b] w fun e w' => e = .returned (.chan none) ∧ w' = w := by
  cases b <;>
  · go_enter Try.func21, Try.ntmps21
    go_wp2_with fail
    refine (rows_nil _).mono ?_
    rintro e w' ⟨rfl, rfl⟩
    go_wp2
    go_ret
    exact ⟨rfl, rfl⟩
theorem row_any (b : Bool) (B cu cn room : Nat) (cl : Bool) (U N : List ByteArray) (w : World) (h : In w B cu cn room cl U N) : Calls Try.prog 21 #[.pointer (some ⟨B, 0, none⟩), .bool b] w fun e w' => e = .returned (.chan (some (if b then cu else cn))) ∧ Below w.heap.size w w' ∧ w'.heap = w.heap := by
  have H : Hid (In w B cu cn room cl U N) := h
  clear h
  cases b <;>
  · go_enter Try.func21, Try.ntmps21
    go_wp2_with fail
    refine (rows_any B cu cn room cl U N _ H.out).mono ?_
    rintro e w1 ⟨rfl, hb⟩
    have HB : Hid (Below w.heap.size w w1 ∧ w1.heap = w.heap) := hb
    clear hb
    go_wp2
    go_ret
    exact ⟨rfl, HB.out⟩
end Go.Proofs.Ytocainggkdmojaa
