/-
  What the law of steps wants besides: a clock and a reference side by side, and the reference's Find with its answer written out.
-/
import Derived.Test.YtlhobncpifklkaaRefAny
import Derived.Deep.QuietTactic
import Derived.BigQuiet
namespace Go.Proofs.Ytlhobncpifklkaa
open Go.RowKit Go.Maps

theorem RefAt.drew {w : World} {r : Nat} {v : Value} {L : List (Int × Int)} (h : RefAt w r v L) : RefAt w.drew r v L := ⟨h.block, h.row⟩
theorem held_two' {w w' : World} {b1 o1 b2 o2 : Nat} {v1 v2 : Value} (h : w.cell? ⟨b1, o1, none⟩ = some v1 ∧ w.cell? ⟨b2, o2, none⟩ = some v2) (hg : w.grownBy w' none) : w'.cell? ⟨b1, o1, none⟩ = some v1 ∧ w'.cell? ⟨b2, o2, none⟩ = some v2 :=
  ⟨hg.cell h.1 (by simp), hg.cell h.2 (by simp)⟩
theorem held_three' {w w' : World} {b1 o1 b2 o2 b3 o3 : Nat} {v1 v2 v3 : Value} (h : w.cell? ⟨b1, o1, none⟩ = some v1 ∧ w.cell? ⟨b2, o2, none⟩ = some v2 ∧ w.cell? ⟨b3, o3, none⟩ = some v3) (hg : w.grownBy w' none) : w'.cell? ⟨b1, o1, none⟩ = some v1 ∧ w'.cell? ⟨b2, o2, none⟩ = some v2 ∧ w'.cell? ⟨b3, o3, none⟩ = some v3 :=
  ⟨hg.cell h.1 (by simp), hg.cell h.2.1 (by simp), hg.cell h.2.2 (by simp)⟩
/-- What changes a block below the reference leaves the reference. -/
theorem RefAt.past {w w' : World} {r : Nat} {v : Value} {L : List (Int × Int)} {b : Nat} (h : RefAt w r v L) (hg : w.grownBy w' (some b)) (hb : b < r) : RefAt w' r v L := by
  refine h.kept hg (by simp; omega) ?_
  rcases h.row.2 with ⟨rfl, _⟩ | ⟨g, cap, cur, rfl, _, hge, _⟩
  · exact .inl rfl
  · exact .inr (by simp [Value.ownBlock]; omega)
theorem rfind_none {r : Nat} {v : Value} {L : List (Int × Int)} (n : Int) (w : World) (h : RefAt w r v L) (hl : L.length ≤ 257) (hf : Al.find L n = none) :
    Calls Try.prog 20 #[.pointer (some ⟨r, 0, none⟩), .int .i64 n] w fun e w' => e = .returned (.int .i64 (-1)) ∧ w.grownBy w' none := by
  have := rfind_any n w h hl
  rw [hf] at this
  exact this
theorem rfind_some {r : Nat} {v : Value} {L : List (Int × Int)} (n : Int) (w : World) (h : RefAt w r v L) (hl : L.length ≤ 257) {a : Int} (hf : Al.find L n = some a) :
    Calls Try.prog 20 #[.pointer (some ⟨r, 0, none⟩), .int .i64 n] w fun e w' => e = .returned (.int .i64 a) ∧ w.grownBy w' none := by
  have := rfind_any n w h hl
  rw [hf] at this
  exact this
theorem below_drew1 {B : Nat} {w W : World} (h : Below B w W) : Below B w W.drew := ⟨h.os, h.tape, h.output, h.size, h.block⟩
/-- A world that is w grown by blocks of its own. -/
structure Grw (w : World) where
  out : World
  grown : w.grownBy out none
theorem grw_some (w : World) : Nonempty (Grw w) := ⟨⟨w, grown_refl _ _⟩⟩
/-- A region that only reads, and whose callees read and lay blocks of their own, walked once. -/
theorem wp_region_grw {P : Program} {id : Nat} {Q : Exit → Act → World → Prop} {a : Act} {w : World} {l : List Oper} (hm : P.follows .mixedOrders = true) (hB : Region.lexB .any l.toArray = true)
    (h : wpQuiet P l.toArray (fun w' => ∃ p : Grw w, w' = p.out) (fun a' => ∀ w', (∃ p : Grw w, w' = p.out) → Q .normal a' w') l a) : (Code.region id l.toArray true).wp P Q a w :=
  wp_region_quiet (C := fun w' => ∃ p : Grw w, w' = p.out) hm hB ⟨⟨w.drew, ⟨rfl, rfl, rfl, Nat.le_refl _, fun _ _ _ => rfl⟩⟩, rfl⟩ (by simpa using h)
theorem calls_grw {P : Program} {f : FuncId} {args : Array Value} {w W : World} {v : Value} (hg : w.grownBy W none)
    (h : Calls P f args W fun e w' => e = .returned v ∧ W.grownBy w' none) : Calls P f args W fun e w'' => e = .returned v ∧ ∃ p : Grw w, w'' = p.out :=
  h.mono fun _ w' ⟨he, hw⟩ => ⟨he, ⟨w', grown_trans hg hw⟩, rfl⟩
theorem len_grw {s bm : Nat} {L : List (Int × Int)} (w : World) (h : ClockAt w s bm L) : Calls Try.prog 21 #[.pointer (some ⟨s, 0, none⟩)] w fun e w' => e = .returned (.int .i64 L.length) ∧ w.grownBy w' none :=
  (len_any w h).mono fun _ _ ⟨he, hw⟩ => ⟨he, by rw [hw]; exact grown_refl _ _⟩
end Go.Proofs.Ytlhobncpifklkaa
