/-
  memo.num and the closure that adds a field: what they answer, and what becomes of the box.
-/
import Derived.Test.YtlmoibicepppmaaDoorWChk
import Derived.Test.YtlmoibicepppmaaDoorFields
import Derived.Test.YtlmoibicepppmaaDoorPlainP
import Derived.Test.YtlmoibicepppmaaDoorAppend
import Derived.RangeFuncBox
import Derived.OneCell
namespace Go.Proofs.YtlmoibicepppmaaDoor
open Go.ChangeShapes Go.WideShapes Go.ChangeAt Go.RowKit Go.Deep Me
set_option maxRecDepth 100000

/-- Any world grown from w. -/
structure Grw (w : World) where
  out : World
  grown : w.grownBy out none
theorem grw_some (w : World) : Nonempty (Grw w) := ⟨⟨w, grown_refl _ _⟩⟩
/-- A region that only reads, and whose callees read and lay blocks of their own, walked once. -/
theorem wp_region_grw {P : Program} {id : Nat} {Q : Exit → Act → World → Prop} {a : Act} {w : World} {l : List Oper} (hm : P.follows .mixedOrders = true) (hB : Region.lexB .any l.toArray = true)
    (h : wpQuiet P l.toArray (fun w' => ∃ p : Grw w, w' = p.out) (fun a' => ∀ w', (∃ p : Grw w, w' = p.out) → Q .normal a' w') l a) : (Code.region id l.toArray true).wp P Q a w :=
  wp_region_quiet (C := fun w' => ∃ p : Grw w, w' = p.out) hm hB ⟨⟨w.drew, ⟨rfl, rfl, rfl, Nat.le_refl _, fun _ _ _ => rfl⟩⟩, rfl⟩ (by simpa using h)
theorem calls_grw {P : Program} {f : FuncId} {args : Array Value} {w W : World} {v : Value} (hg : w.grownBy W none)
    (h : Calls P f args W fun e w' => e = .returned v ∧ Below W.heap.size W w') : Calls P f args W fun e w'' => e = .returned v ∧ ∃ p : Grw w, w'' = p.out :=
  h.mono fun _ w' ⟨he, hw⟩ => ⟨he, ⟨w', grown_trans hg (grown_of_below hw none)⟩, rfl⟩
theorem Grw.below {w : World} (p : Grw w) : Below w.heap.size w p.out := below_none p.grown (Nat.le_refl _)
theorem cell_lt {w : World} {b j : Nat} {v : Value} (h : w.cell? ⟨b, j, none⟩ = some v) : b < w.heap.size := by
  rcases Nat.lt_or_ge b w.heap.size with h' | h'
  · exact h'
  · simp [World.cell?, Array.getElem?_eq_none h'] at h
theorem cell_step {w w' : World} {b j : Nat} {v : Value} (h : w.cell? ⟨b, j, none⟩ = some v) (hb : Below w.heap.size w w') : w'.cell? ⟨b, j, none⟩ = some v := (hb.cell (p := ⟨b, j, none⟩) (cell_lt h)).trans h
theorem Grw.cell {w : World} (p : Grw w) {b j : Nat} {v : Value} (h : w.cell? ⟨b, j, none⟩ = some v) : p.out.cell? ⟨b, j, none⟩ = some v := cell_step h p.below
theorem block_lt {w : World} {b : Nat} {o : Obj} (h : w.heap[b]? = some o) : b < w.heap.size := by
  rcases Nat.lt_or_ge b w.heap.size with h' | h'
  · exact h'
  · rw [Array.getElem?_eq_none h'] at h; cases h
theorem block_step {w w' : World} {b : Nat} {o : Obj} (h : w.heap[b]? = some o) (hb : Below w.heap.size w w') : w'.heap[b]? = some o := (hb.block b (block_lt h)).trans h

theorem infoF : (Tryd.prog.info? 78).map (fun i => (i.zero, i.size, i.bytes)) = some (some (.agg #[.int .i64 0, .string ⟨#[]⟩]), 2, 24) := by kernel_rfl
theorem info_parts {P : Program} {e : TypeId} {z : Value} {n b : Nat} (h : (P.info? e).map (fun i => (i.zero, i.size, i.bytes)) = some (some z, n, b)) : ∃ i, P.info? e = some i ∧ i.zero = some z ∧ i.size = n ∧ i.bytes = b := by
  cases hi : P.info? e with
  | none => rw [hi] at h; cases h
  | some i =>
    rw [hi] at h
    simp at h
    exact ⟨i, rfl, h.1, h.2.1, h.2.2⟩
theorem num_s (n size : Int) (w : World) (hn : n ≤ 9223372036854775807) : Calls Tryd.prog 41 #[.int .i64 n, .int .i64 size] w fun e w' => e = .returned (.string (Pl.numOut n size)) ∧ Below w.heap.size w w' := by
  go_enter Tryd.func41, Tryd.ntmps41
  go_wp2_with fail
  refine (num_any n size _ hn).mono ?_
  rintro e w1 ⟨rfl, hb⟩
  go_wp2
  go_ret
  exact ⟨rfl, hb⟩
/-- What holds behind each field: the box b has a slice of the call's own, whose fields are l; the blocks of w0 are as they were. -/
structure St (n0 b : Nat) (l : List (Int × ByteArray)) (w0 : World) (v : Value) (w : World) : Prop where
  box : Boxed w b 52 v
  row : w.ownsRow n0 78 2 v l.length (cellsOf l)
  below : Below n0 w0 w
  base : n0 ≤ b
  start : n0 ≤ w0.heap.size
theorem St.step {n0 b : Nat} {l : List (Int × ByteArray)} {w0 w w' : World} {v : Value} (h : St n0 b l w0 v w) (hb : Below w.heap.size w w') : St n0 b l w0 v w' :=
  ⟨block_step h.box hb, h.row.kept (grown_of_below hb none) (Classical.em _), h.below.trans (hb.mono (Nat.le_trans h.start h.below.size)), h.base, h.start⟩
theorem St.fields {n0 b : Nat} {l : List (Int × ByteArray)} {w0 w : World} {v : Value} (h : St n0 b l w0 v w) : FieldsAt w.heap.size w v l := FieldsAt.of_own h.row

def Others (b : Nat) (w w' : World) : Prop := ∀ B o t, t ≠ 78 → B ≠ b → w.heap[B]? = some (.cells o t (0, 0)) → w'.heap[B]? = some (.cells o t (0, 0))
theorem added {n0 b : Nat} {l : List (Int × ByteArray)} {w0 w w1 : World} {v v1 : Value} {tag : Int} {s : ByteArray} {o : Obj} (h : St n0 b l w0 v w)
    (hown : w1.ownsRow n0 78 2 v1 (l.length + 1) (cellsOf l ++ [.int .i64 tag, .string s])) (hgrow : (w.alloc o).grownBy w1 v.ownBlock) :
    ∃ g cap, v1 = .slice (some ⟨g, 0, none⟩) (l.length + 1) cap ∧ w1.cell? ⟨b, 0, none⟩ = some v ∧ w1.frozen? ⟨b, 0, none⟩ = false ∧ b < w1.heap.size ∧ Hid (St n0 b (l ++ [(tag, s)]) w0 v1 (w1.setCell ⟨b, 0, none⟩ v1) ∧ Others b w (w1.setCell ⟨b, 0, none⟩ v1)) := by
  obtain ⟨g1, cap1, hv1⟩ := ownsRow_succ hown
  have hb1 : Boxed w1 b 52 v := (h.box.alloc _).kept hgrow ((h.box.alloc o).not_row (by decide) (h.row.alloc o))
  refine ⟨g1, cap1, hv1, hb1.cell, hb1.frozen, hb1.lt, ⟨hb1.set _, ?_, ?_, h.base, h.start⟩, ?_⟩
  · refine World.ownsRow.kept (w := w1) ?_ (grownBy_setCell' w1 b _) (.inr (hb1.not_row (by decide) hown).symm)
    rw [cellsOf_append, List.length_append]
    exact hown
  · have h1 := h.below.size
    have h2 := h.start
    exact ((h.below.alloc (Nat.le_trans h2 h1) _).grown hgrow (by simp; omega) (fun g hg => (h.row.lt g hg).1)).setCell (p := ⟨b, 0, none⟩) h.base _
  · intro B o' t ht hB hBo
    have h1 : w1.heap[B]? = some (.cells o' t (0, 0)) := App.keep (h.row.alloc o) hgrow ((Below.heap_alloc w o B (block_lt hBo)).trans hBo) ht
    exact (Below.heap_setCell _ _ _ B (fun e => hB e)).trans h1
set_option maxRecDepth 100000 in
set_option maxHeartbeats 1000000 in
theorem add_any (there : Bool) (tag : Int) (s : ByteArray) (n0 b : Nat) (l : List (Int × ByteArray)) (w0 : World) (v : Value) (w : World) (h : St n0 b l w0 v w) (hl : l.length ≤ 1000) :
    Calls Tryd.prog 40 #[.bool there, .int .i64 tag, .string s, .pointer (some ⟨b, 0, none⟩)] w fun e w' => e = .returned (.tuple #[]) ∧ ∃ v', St n0 b (l ++ opt there (tag, s)) w0 v' w' ∧ Others b w w' := by
  cases there with
  | false =>
    have HL : Hid (l ++ opt false (tag, s) = l) := by simp [Hid, opt]
    rw [HL.out]
    go_enter Tryd.func40, Tryd.ntmps40
    go_wp2
    go_end0
    exact ⟨rfl, v, h, fun _ _ _ _ _ hB => hB⟩
  | true =>
    have HL : Hid (l ++ opt true (tag, s) = l ++ [(tag, s)]) := by simp [Hid, opt]
    rw [HL.out]
    obtain ⟨i0, hi, hz0, hz1, hz2⟩ := info_parts infoF
    have hc := h.box.cell
    have hlt := h.box.lt
    have HH : Hid (St n0 b l w0 v w) := h
    clear h
    go_enter Tryd.func40, Tryd.ntmps40
    go_wp2_with (at_builtin; refine wpList_append_own _ rfl (.tmp 8) (.tmp 12) 52 rfl n0 78 i0 (.agg #[.int .i64 0, .string ⟨#[]⟩]) 2 24 Tryd.underlying52 hi hz0 hz1 hz2 rfl (by decide) _ _ _ rfl (HH.out.row.alloc _) ⟨w.heap.size, 0, none⟩ 1 1 [.int .i64 tag, .string s] rfl rfl (App.two_new _ _ rfl _ _ _) (App.one2 _ _) (by unfold maxLen; omega) (by omega) (by have := HH.out.below.size; have := HH.out.start; simp; omega) ?_; intro v1 w1 hown1 hgrow1 _; obtain ⟨g1, cap1, rfl, q0, q1, q2, HQ⟩ := added HH.out hown1 hgrow1; clear hown1 hgrow1)
    go_end0
    exact ⟨rfl, _, HQ.out⟩
end Go.Proofs.YtlmoibicepppmaaDoor
