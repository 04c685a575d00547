/-
  Two tallies of seven nodes in one memory; Add in one sentence; bids compared.
-/
import Derived.Test.YtdcknokggjbebaaYOpen
namespace Go.Proofs.Ytdcknokggjbebaa
open Go.ChangeShapes Go.WideShapes Go.ChangeAt Go.RowKit Go.Deep

def Ty.addL (m : Int) (L : List Bd) (b : Bd) : List Bd := if Ty.Fits m b then Ty.add L b else L
def Ty.addB (m : Int) (L : List Bd) (b : Bd) : Bool := decide (Ty.Fits m b) && !Ty.has L b.1
def Ty.addE (m : Int) (b : Bd) : Int := if Ty.Fits m b then 0 else 1
theorem tadd_any {s bm : Nat} {m f : Int} {L : List Bd} (b : Bd) (w : World) (h : TA w s bm m f L) : Calls Try.prog 10 #[.pointer (some ⟨s, 0, none⟩), VB b] w fun e w' => e = .returned (.tuple #[.bool (Ty.addB m L b), .int .i64 (Ty.addE m b)]) ∧ TA w' s bm m f (Ty.addL m L b) ∧ w.grownBy w' (some bm) := by
  unfold Ty.addL Ty.addB Ty.addE
  by_cases hb : Ty.Fits m b
  · rw [if_pos hb, if_pos hb, decide_eq_true hb, Bool.true_and]
    exact tadd_yes b w h hb
  · rw [if_neg hb, if_neg hb, decide_eq_false hb, Bool.false_and]
    refine (tadd_no b w h hb).mono ?_
    rintro e w' ⟨rfl, hg⟩
    exact ⟨rfl, h.still hg, grown_any hg _⟩
theorem eql_bid (w : World) (a b : Bd) : (binOp .eql 32 (VB a) (VB b)).run Try.prog w = .ok (.bool (decide (a = b))) w := by
  obtain ⟨a0, a1, a2⟩ := a
  obtain ⟨b0, b1, b2⟩ := b
  have e : decide ((a0, a1, a2) = (b0, b1, b2)) = ((a0 == b0) && ((a1 == b1) && (a2 == b2))) := by
    rw [Bool.eq_iff_iff]
    simp
  rw [e]
  cases h0 : (a0 == b0) <;> cases h1 : (a1 == b1) <;> cases h2 : (a2 == b2) <;> go_simp <;> simp [h0, h1, h2]
structure TT (w0 w : World) (s1 b1 s2 b2 : Nat) (L1 L2 : List Bd) : Prop where
  h1 : TA w s1 b1 7 3 L1
  h2 : TA w s2 b2 7 3 L2
  ne : b1 ≠ b2
  lo : w0.heap.size ≤ b1 ∧ w0.heap.size ≤ b2
  bel : Below w0.heap.size w0 w
theorem TT.up {w0 w w' : World} {s1 b1 s2 b2 : Nat} {L1 L2 : List Bd} (h : TT w0 w s1 b1 s2 b2 L1 L2) (hb : Below w.heap.size w w') : TT w0 w' s1 b1 s2 b2 L1 L2 := ⟨h.h1.up hb, h.h2.up hb, h.ne, h.lo, h.bel.trans (hb.mono h.bel.size)⟩
theorem TT.one {w0 w w' : World} {s1 b1 s2 b2 : Nat} {L1 L2 L : List Bd} (h : TT w0 w s1 b1 s2 b2 L1 L2) (hg : w.grownBy w' (some b1)) (h' : TA w' s1 b1 7 3 L) : TT w0 w' s1 b1 s2 b2 L L2 := ⟨h', h.h2.other h.h1.ma (Ne.symm h.ne) hg, h.ne, h.lo, below_map h.bel hg h.lo.1 h.bel.size⟩
theorem TT.two {w0 w w' : World} {s1 b1 s2 b2 : Nat} {L1 L2 L : List Bd} (h : TT w0 w s1 b1 s2 b2 L1 L2) (hg : w.grownBy w' (some b2)) (h' : TA w' s2 b2 7 3 L) : TT w0 w' s1 b1 s2 b2 L1 L := ⟨h.h1.other h.h2.ma h.ne hg, h', h.ne, h.lo, below_map h.bel hg h.lo.2 h.bel.size⟩
theorem TT.cells {w0 w : World} {s1 b1 s2 b2 : Nat} {L1 L2 : List Bd} {A : Nat} {x : Bd} (h : TT w0 w s1 b1 s2 b2 L1 L2) (hA : w.heap[A]? = some (BB x)) : (∀ w', w.grownBy w' (some b1) → w'.heap[A]? = some (BB x)) ∧ ∀ w', w.grownBy w' (some b2) → w'.heap[A]? = some (BB x) :=
  ⟨fun _ hg => (hg.block A (Array.getElem?_eq_some_iff.1 hA).1 (fun e => h.h1.ma.no_cell (bid_of hA).1.1 (Option.some.inj e))).trans hA, fun _ hg => (hg.block A (Array.getElem?_eq_some_iff.1 hA).1 (fun e => h.h2.ma.no_cell (bid_of hA).1.1 (Option.some.inj e))).trans hA⟩
theorem is7 : Pn.Is 7 3 := .inr (.inr (.inr ⟨rfl, rfl⟩))
theorem tt_new {w w1 w2 : World} (h1 : TA w1 (w.heap.size + 1) w.heap.size 7 3 []) (g1 : w.grownBy w1 none) (h2 : TA w2 (w1.heap.size + 1) w1.heap.size 7 3 []) (g2 : w1.grownBy w2 none) : TT w w2 (w.heap.size + 1) w.heap.size (w1.heap.size + 1) w1.heap.size [] [] :=
  ⟨h1.still g2, h2, by have := h1.lt.2.1; omega, ⟨Nat.le_refl _, g1.size⟩, (below_none g1 (Nat.le_refl _)).trans ((below_none g2 (Nat.le_refl _)).mono g1.size)⟩
theorem bid_cells {w wr : World} {b off k : Nat} {x : Bd} (h : Below w.heap.size w wr) (hB : b < w.heap.size) (hc : ∀ j u, (EB.cells x)[j]? = some u → w.cell? ⟨b, off + (k * EB.sz + j), none⟩ = some u) :
    wr.cell? ⟨b, off + k * 3, none⟩ = some (.int .i64 x.1) ∧ wr.cell? ⟨b, off + k * 3 + 1, none⟩ = some (.int .i64 x.2.1) ∧ wr.cell? ⟨b, off + k * 3 + 2, none⟩ = some (.int .i64 x.2.2) := by
  have a := fun j u hj => (h.cell (p := ⟨b, off + (k * EB.sz + j), none⟩) hB).trans (hc j u hj)
  exact ⟨a 0 _ rfl, a 1 _ rfl, a 2 _ rfl⟩
/-- What a slice that stands for a list gives a loop over it. -/
abbrev OverB (w : World) (ao : Option Addr) (l : List Bd) : Prop := ∀ i x, l[i]? = some x → ∃ b off, ao = some ⟨b, off, none⟩ ∧ True ∧ b < w.heap.size ∧ ∀ k u, (EB.cells x)[k]? = some u → w.cell? ⟨b, off + (i * EB.sz + k), none⟩ = some u
end Go.Proofs.Ytdcknokggjbebaa
