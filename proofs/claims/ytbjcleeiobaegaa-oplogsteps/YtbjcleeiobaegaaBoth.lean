/-
  A log and the reference's log side by side: what turns one leaves the other.
-/
import Derived.Test.YtbjcleeiobaegaaRefP
import Derived.Deep.RegionHeld3
namespace Go.Proofs.Ytbjcleeiobaegaa
open Go.RowKit

theorem Row.kind {w : World} {B : Nat} {e : TypeId} {v : Value} {ls : List Ol.It} (h : Row w B e v ls) {j : Nat} (hj : v.ownBlock = some j) : ∃ cur, w.heap[j]? = some (.cells cur e (0, 0)) := by
  rcases h with ⟨rfl, _⟩ | ⟨g, off, cap, cur, rfl, _, hg, _⟩
  · simp [Value.ownBlock] at hj
  · simp [Value.ownBlock] at hj
    subst hj
    exact ⟨cur, hg⟩
theorem row_not {w : World} {B : Nat} {e t : TypeId} {v : Value} {ls : List Ol.It} (h : Row w B e v ls) {k : Nat} {c : Array Value} (hk : w.heap[k]? = some (.cells c t (0, 0))) (ht : t ≠ e) : some k ≠ v.ownBlock := fun hh => by
  obtain ⟨cur, hc⟩ := h.kind hh.symm
  rw [hk] at hc
  injection hc with hc
  injection hc with h1 h2
  exact ht h2
theorem block_not {w : World} {k l : Nat} {c d : Array Value} {t e : TypeId} (hk : w.heap[k]? = some (.cells c t (0, 0))) (hl : w.heap[l]? = some (.cells d e (0, 0))) (ht : t ≠ e) : k ≠ l := fun hh => by
  subst hh
  rw [hk] at hl
  injection hl with hc
  injection hc with h1 h2
  exact ht h2
theorem Row.turned {w w' : World} {B s : Nat} {e : TypeId} {v u : Value} {ls : List Ol.It} (h : Row w B e u ls) (ht : Turns w w' s v) (h1 : some s ≠ u.ownBlock) (h2 : ∀ j, v.ownBlock = some j → u.ownBlock ≠ some j) : Row w' B e u ls := by
  rcases h with h | ⟨g, off, cap, cur, rfl, hB, hg, h3⟩
  · exact .inl h
  · refine .inr ⟨g, off, cap, cur, rfl, hB, ?_, h3⟩
    exact (ht.block g (Array.getElem?_eq_some_iff.1 hg).1 (fun e => h1 (by rw [e]; rfl)) (fun e => h2 g e.symm rfl)).trans hg
/-- A log and the reference's stand for one list, each in memory of its own. -/
structure Both (w : World) (s r : Nat) (base : Int) (v u : Value) (ls : List Ol.It) : Prop where
  code : LogAt w s base v ls
  ref : Rf.LogAt w r base u ls
  apart : ∀ j, v.ownBlock = some j → u.ownBlock ≠ some j
theorem Both.still {w w' : World} {s r : Nat} {base : Int} {v u : Value} {ls : List Ol.It} (h : Both w s r base v u ls) (hg : w.grownBy w' none) : Both w' s r base v u ls := ⟨h.code.still hg, h.ref.still hg, h.apart⟩
theorem Both.drew {w : World} {s r : Nat} {base : Int} {v u : Value} {ls : List Ol.It} (h : Both w s r base v u ls) : Both w.drew s r base v u ls := h.still (grown_drew (grown_refl _ _) 1)
theorem Both.one {w w2 : World} {s r : Nat} {base : Int} {v u : Value} {ls : List Ol.It} (h : Both w s r base v u ls) (ht : Turns w w2 s v) : Rf.LogAt w2 r base u ls :=
  ⟨(ht.block r h.ref.lt (block_not h.ref.block h.code.block (by decide)) (row_not h.code.row h.ref.block (by decide))).trans h.ref.block, h.ref.row.turned ht (row_not h.ref.row h.code.block (by decide)) h.apart, h.ref.good⟩
theorem Both.two {w w2 w3 : World} {s r : Nat} {base b2 : Int} {v u v2 u3 : Value} {ls ls2 : List Ol.It} (h : Both w s r base v u ls) (ht : Turns w w2 s v) (hm : Moves w v v2) (p2 : LogAt w2 s b2 v2 ls2) (t2 : Turns w2 w3 r u) (m2 : Moves w2 u u3) (r3 : Rf.LogAt w3 r b2 u3 ls2) : Both w3 s r b2 v2 u3 ls2 := by
  have r2 := h.one ht
  have ap : ∀ j, u.ownBlock = some j → v2.ownBlock ≠ some j := fun j hj hv => by
    rcases hm with hm | hm
    · exact h.apart j (hm ▸ hv) hj
    · have h1 := hm j hv
      have h2 := (h.ref.row.lt j hj).2
      omega
  refine ⟨⟨(t2.block s p2.lt (block_not p2.block r2.block (by decide)) (row_not r2.row p2.block (by decide))).trans p2.block, p2.row.turned t2 (row_not p2.row r2.block (by decide)) ap, p2.good⟩, r3, fun j hv hu => ?_⟩
  rcases m2 with m2 | m2
  · exact ap j (m2 ▸ hu) hv
  · have h1 := m2 j hu
    have h2 := (p2.row.lt j hv).2
    omega
theorem leaves {w w' : World} {s X : Nat} {v : Value} {o : Obj} (ht : Turns w w' s v) (hX : w.heap[X]? = some o) (h1 : X ≠ s) (h2 : some X ≠ v.ownBlock) : w'.heap[X]? = some o := (ht.block X (Array.getElem?_eq_some_iff.1 hX).1 h1 h2).trans hX
/-- Both stand for one list again; nothing below them has turned. -/
def Goes (w w' : World) (s r : Nat) : Prop := ∃ base v u ls, Both w' s r base v u ls ∧ (∀ B, B ≤ s → B ≤ r → Below B w w') ∧ ∀ (X : Nat) (c : Array Value), w.heap[X]? = some (.cells c 35 (0, 0)) → w'.heap[X]? = some (.cells c 35 (0, 0))
theorem goes_two {w W w2 w3 : World} {s r : Nat} {base b2 : Int} {v u v2 u3 : Value} {ls ls2 : List Ol.It} (hB : ∀ B, B ≤ s → Below B w W) (hK : ∀ (X : Nat) (c : Array Value), w.heap[X]? = some (.cells c 35 (0, 0)) → W.heap[X]? = some (.cells c 35 (0, 0))) (h : Both W s r base v u ls) (ht : Turns W w2 s v) (hm : Moves W v v2) (p2 : LogAt w2 s b2 v2 ls2) (t2 : Turns w2 w3 r u) (m2 : Moves w2 u u3) (r3 : Rf.LogAt w3 r b2 u3 ls2) : Goes w w3 s r := by
  refine ⟨b2, v2, u3, ls2, h.two ht hm p2 t2 m2 r3, fun B hs hr => ((hB B hs).trans (h.code.below ht hs)).trans ((h.one ht).below t2 hr), fun X c hX => ?_⟩
  have h1 := hK X c hX
  have h2 := leaves ht h1 (block_not h1 h.code.block (by decide)) (row_not h.code.row h1 (by decide))
  exact leaves t2 h2 (block_not h2 (h.one ht).block (by decide)) (row_not (h.one ht).row h2 (by decide))
theorem eight_all {w : World} {b : Nat} {x0 x1 x2 y0 y1 y2 : Int} {y3 : ByteArray} {vl : Value} (hb : w.heap[b]? = some (.cells #[.int .i64 x0, .int .i64 x1, .int .i64 x2, .int .i64 y0, .int .i64 y1, .int .i64 y2, .string y3, vl] 35 (0, 0))) : w.cell? ⟨b, 0, none⟩ = some (.int .i64 x0) ∧ w.cell? ⟨b, 1, none⟩ = some (.int .i64 x1) ∧ w.cell? ⟨b, 2, none⟩ = some (.int .i64 x2) ∧ w.cell? ⟨b, 3, none⟩ = some (.int .i64 y0) ∧ w.cell? ⟨b, 4, none⟩ = some (.int .i64 y1) ∧ w.cell? ⟨b, 5, none⟩ = some (.int .i64 y2) ∧ w.cell? ⟨b, 6, none⟩ = some (.string y3) ∧ w.cell? ⟨b, 7, none⟩ = some vl := by
  refine ⟨?_, ?_, ?_, ?_, ?_, ?_, ?_, ?_⟩ <;> simp [World.cell?, hb]
end Go.Proofs.Ytbjcleeiobaegaa
