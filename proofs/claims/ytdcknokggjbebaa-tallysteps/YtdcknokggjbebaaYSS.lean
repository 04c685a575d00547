/-
  A tally and the document's one in one memory; Add and Forget in one sentence each.
-/
import Derived.Test.YtdcknokggjbebaaYRefA
import Derived.Test.YtdcknokggjbebaaYRefB
namespace Go.Proofs.Ytdcknokggjbebaa
open Go.ChangeShapes Go.WideShapes Go.ChangeAt Go.RowKit Go.Deep

structure SS (w0 w : World) (s1 b1 s2 B0 : Nat) (m f : Int) (L : List Bd) : Prop where
  ta : TA w s1 b1 m f L
  ra : RA w B0 s2 m L
  ne : s1 ≠ s2 ∧ b1 ≠ s2
  lo : w0.heap.size ≤ b1 ∧ w0.heap.size ≤ s2
  bel : Below w0.heap.size w0 w
theorem SS.up {w0 w w' : World} {s1 b1 s2 B0 : Nat} {m f : Int} {L : List Bd} (h : SS w0 w s1 b1 s2 B0 m f L) (hb : Below w.heap.size w w') : SS w0 w' s1 b1 s2 B0 m f L := ⟨h.ta.up hb, h.ra.up' hb, h.ne, h.lo, h.bel.trans (hb.mono h.bel.size)⟩
theorem SS.len {w0 w : World} {s1 b1 s2 B0 : Nat} {m f : Int} {L : List Bd} (h : SS w0 w s1 b1 s2 B0 m f L) : L.length ≤ 7 := Ty.len_le h.ta.is h.ta.ma.inc h.ta.ma.fits
/-- The tally has been turned, then the document's. -/
theorem SS.both {w0 w w1 w2 : World} {s1 b1 s2 B0 : Nat} {m f : Int} {L L' : List Bd} (h : SS w0 w s1 b1 s2 B0 m f L) (h1 : TA w1 s1 b1 m f L') (g1 : w.grownBy w1 (some b1)) (h2 : RA w2 B0 s2 m L') (g2 : w1.grownBy w2 (some s2)) : SS w0 w2 s1 b1 s2 B0 m f L' :=
  ⟨h1.kept (g2.block _ h1.lt.1 (fun e => h.ne.1 (Option.some.inj e))) (g2.block _ h1.lt.2.1 (fun e => h.ne.2 (Option.some.inj e))), h2, h.ne, h.lo, below_map (below_map h.bel g1 h.lo.1 h.bel.size) g2 h.lo.2 (Nat.le_trans h.bel.size g1.size)⟩
theorem radd_any {B s : Nat} {m : Int} {L : List Bd} (b : Bd) (w : World) (h : RA w B s m L) (hl : L.length ≤ 7) : Calls Try.prog 11 #[.pointer (some ⟨s, 0, none⟩), VB b] w fun e w' => e = .returned (.tuple #[.bool (Ty.addB m L b), .int .i64 (Ty.addE m b)]) ∧ RA w' B s m (Ty.addL m L b) ∧ w.grownBy w' (some s) := by
  unfold Ty.addL Ty.addB Ty.addE
  by_cases hb : Ty.Fits m b
  · rw [if_pos hb, if_pos hb, decide_eq_true hb, Bool.true_and]
    exact radd_yes b w h hl hb
  · rw [if_neg hb, if_neg hb, decide_eq_false hb, Bool.false_and]
    refine (radd_no b w h hb).mono ?_
    rintro e w' ⟨rfl, hg⟩
    exact ⟨rfl, h.still hg, grown_any hg _⟩
def Ty.fogL (m : Int) (L : List Bd) (k : Int) : List Bd := if 0 ≤ k ∧ k < m then Ty.del L k else L
def Ty.fogB (m : Int) (L : List Bd) (k : Int) : Bool := decide (0 ≤ k ∧ k < m) && Ty.has L k
def Ty.fogE (m : Int) (k : Int) : Int := if 0 ≤ k ∧ k < m then 0 else 1
theorem tforget_any {s bm : Nat} {m f : Int} {L : List Bd} (k : Int) (w : World) (h : TA w s bm m f L) : Calls Try.prog 13 #[.pointer (some ⟨s, 0, none⟩), .int .i64 k] w fun e w' => e = .returned (.tuple #[.bool (Ty.fogB m L k), .int .i64 (Ty.fogE m k)]) ∧ TA w' s bm m f (Ty.fogL m L k) ∧ w.grownBy w' (some bm) := by
  unfold Ty.fogL Ty.fogB Ty.fogE
  by_cases hb : 0 ≤ k ∧ k < m
  · rw [if_pos hb, if_pos hb, decide_eq_true hb, Bool.true_and]
    exact tforget_yes w h hb
  · rw [if_neg hb, if_neg hb, decide_eq_false hb, Bool.false_and]
    refine (tforget_no w h hb).mono ?_
    rintro e w' ⟨rfl, rfl⟩
    exact ⟨rfl, h, grown_refl _ _⟩
theorem rforget_any {B s : Nat} {m : Int} {L : List Bd} (k : Int) (w : World) (h : RA w B s m L) (hl : L.length ≤ 7) : Calls Try.prog 14 #[.pointer (some ⟨s, 0, none⟩), .int .i64 k] w fun e w' => e = .returned (.tuple #[.bool (Ty.fogB m L k), .int .i64 (Ty.fogE m k)]) ∧ RA w' B s m (Ty.fogL m L k) ∧ w.grownBy w' (some s) := by
  unfold Ty.fogL Ty.fogB Ty.fogE
  by_cases hb : 0 ≤ k ∧ k < m
  · rw [if_pos hb, if_pos hb, decide_eq_true hb, Bool.true_and]
    exact rforget_yes k w h hl hb
  · rw [if_neg hb, if_neg hb, decide_eq_false hb, Bool.false_and]
    refine (rforget_no k w h hb).mono ?_
    rintro e w' ⟨rfl, rfl⟩
    exact ⟨rfl, h, grown_refl _ _⟩
theorem ra_clear {B s : Nat} {m : Int} {L : List Bd} {w : World} (h : RA w B s m L) : RA (w.setCell ⟨s, 1, none⟩ (.slice none 0 0)) B s m [] ∧ w.grownBy (w.setCell ⟨s, 1, none⟩ (.slice none 0 0)) (some s) := h.set (Below.refl _ _) (Row.nil _ _ _ _)
theorem st_cells {w wr : World} {b off k : Nat} {x : Int × Bd} (h : Below w.heap.size w wr) (hB : b < w.heap.size) (hc : ∀ j u, (ES.cells x)[j]? = some u → w.cell? ⟨b, off + (k * ES.sz + j), none⟩ = some u) :
    wr.cell? ⟨b, off + k * 4, none⟩ = some (.int .i64 x.1) ∧ wr.cell? ⟨b, off + k * 4 + 1, none⟩ = some (.int .i64 x.2.1) ∧ wr.cell? ⟨b, off + k * 4 + 2, none⟩ = some (.int .i64 x.2.2.1) ∧ wr.cell? ⟨b, off + k * 4 + 3, none⟩ = some (.int .i64 x.2.2.2) := by
  have a := fun j u hj => (h.cell (p := ⟨b, off + (k * ES.sz + j), none⟩) hB).trans (hc j u hj)
  exact ⟨a 0 _ rfl, a 1 _ rfl, a 2 _ rfl, a 3 _ rfl⟩
abbrev BT (x : Int × Bd) : Obj := .cells #[.int .i64 x.1, .int .i64 x.2.1, .int .i64 x.2.2.1, .int .i64 x.2.2.2] 34
theorem st_of {w : World} {A : Nat} {x : Int × Bd} (h : w.heap[A]? = some (BT x)) : w.cell? ⟨A, 0, none⟩ = some (.int .i64 x.1) ∧ w.cell? ⟨A, 1, none⟩ = some (.int .i64 x.2.1) ∧ w.cell? ⟨A, 2, none⟩ = some (.int .i64 x.2.2.1) ∧ w.cell? ⟨A, 3, none⟩ = some (.int .i64 x.2.2.2) := by
  refine ⟨?_, ?_, ?_, ?_⟩ <;> simp [World.cell?, h]
abbrev OverS (w : World) (ao : Option Addr) (l : List (Int × Bd)) : Prop := ∀ i x, l[i]? = some x → ∃ b off, ao = some ⟨b, off, none⟩ ∧ True ∧ b < w.heap.size ∧ ∀ k u, (ES.cells x)[k]? = some u → w.cell? ⟨b, off + (i * ES.sz + k), none⟩ = some u
theorem neq_rbid (w : World) (a b : Bd) : (binOp .neq 39 (VB a) (VB b)).run Try.prog w = .ok (.bool (!decide (a = b))) w := by
  obtain ⟨a0, a1, a2⟩ := a
  obtain ⟨b0, b1, b2⟩ := b
  have e : decide ((a0, a1, a2) = (b0, b1, b2)) = ((a0 == b0) && ((a1 == b1) && (a2 == b2))) := by
    rw [Bool.eq_iff_iff]
    simp
  rw [e]
  cases h0 : (a0 == b0) <;> cases h1 : (a1 == b1) <;> cases h2 : (a2 == b2) <;> go_simp <;> simp [h0, h1, h2]
theorem grown_drew1 (w : World) : w.grownBy w.drew none := ⟨rfl, rfl, rfl, Nat.le_refl _, fun _ _ _ => rfl⟩
end Go.Proofs.Ytdcknokggjbebaa
