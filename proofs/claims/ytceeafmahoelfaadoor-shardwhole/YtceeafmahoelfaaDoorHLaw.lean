/-
  What the statements' texts share: worlds that grow; a shard as the document's.
-/
import Derived.Test.YtceeafmahoelfaaDoorHOpen
namespace Go.Proofs.YtceeafmahoelfaaDoor
open Go.ChangeShapes Go.WideShapes Go.ChangeAt Go.RowKit

/-- Any world grown from w. -/
structure Grw (w : World) where
  out : World
  grown : w.grownBy out none
theorem grw_some (w : World) : Nonempty (Grw w) := ⟨⟨w, grown_refl _ _⟩⟩
/-- A region that only reads, and whose callees read and lay blocks of their own, walked once. -/
theorem wp_region_grw {P : Program} {id : Nat} {Q : Exit → Act → World → Prop} {a : Act} {w : World} {l : List Oper} (hm : P.follows .mixedOrders = true) (hB : Region.lexB .any l.toArray = true)
    (h : wpQuiet P l.toArray (fun w' => ∃ p : Grw w, w' = p.out) (fun a' => ∀ w', (∃ p : Grw w, w' = p.out) → Q .normal a' w') l a) : (Code.region id l.toArray true).wp P Q a w :=
  wp_region_quiet (C := fun w' => ∃ p : Grw w, w' = p.out) hm hB ⟨⟨w.drew, ⟨rfl, rfl, rfl, Nat.le_refl _, fun _ _ _ => rfl⟩⟩, rfl⟩ (by simpa using h)
theorem calls_grw {P : Program} {f : FuncId} {args : Array Value} {w W : World} {v : Value} (hg : w.grownBy W none)
    (h : Calls P f args W fun e w' => e = .returned v ∧ Below W.heap.size W w') : Calls P f args W fun e w'' => e = .returned v ∧ ∃ p : Grw w, w'' = p.out :=
  h.mono fun _ w' ⟨he, hw⟩ => ⟨he, ⟨w', grown_trans hg (grown_of_below hw none)⟩, rfl⟩
theorem Grw.below {w : World} (p : Grw w) : Below w.heap.size w p.out := below_none p.grown (Nat.le_refl _)

theorem Grw.cell {w : World} (p : Grw w) {b j : Nat} {v : Value} (h : w.cell? ⟨b, j, none⟩ = some v) : p.out.cell? ⟨b, j, none⟩ = some v := (p.below.cell (p := ⟨b, j, none⟩) (World.block_lt_of_cell? _ _ h)).trans h
theorem Grw.tab {w : World} (p : Grw w) (h : Tab w) : Tab p.out := h.up p.below
set_option maxRecDepth 100000 in
set_option maxHeartbeats 400000 in
theorem ref_any (s : Sh.Sd) (w : World) : Calls Tryd.prog 11 #[s.val] w fun e w' => e = .returned s.val ∧ Below w.heap.size w w' := by
  obtain ⟨o, n, d, k⟩ := s
  show Calls Tryd.prog 11 #[.agg #[.int .i64 o, .int .i64 n, .string d, .int .i64 k]] w fun e w' => e = .returned (.agg #[.int .i64 o, .int .i64 n, .string d, .int .i64 k]) ∧ Below w.heap.size w w'
  go_enter Tryd.func11, Tryd.ntmps11
  go_wp2
  exact bodyPost_ret (v := .agg #[.int .i64 o, .int .i64 n, .string d, .int .i64 k]) (by simp [results, Tryd.results11, go_sem]) rfl ⟨rfl, bup (below_alloc _ _) (below_alloc _ _)⟩
theorem Sh.chk_okM (m : Sh.Mf) : (Sh.chkE m == 0) = Sh.okM m := by
  unfold Sh.chkE
  cases Sh.okM m <;> rfl
end Go.Proofs.YtceeafmahoelfaaDoor
