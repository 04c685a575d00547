/-
  What OplogKeeps keeps: its own list of items beside the log.
-/
import Derived.Test.YtbjcleeiobaegaaSteps
import Derived.Test.YtbjcleeiobaegaaPutsA
namespace Go.Proofs.Ytbjcleeiobaegaa
open Go.RowKit

/-- The log has those of hs behind b; the slice hv, elsewhere in memory, has all of hs. -/
structure Kept (w : World) (s B : Nat) (v hv : Value) (hs : List Ol.It) (b : Nat) : Prop where
  log : LogAt w s b v (hs.drop b)
  row : Row w B 32 hv hs
  le : b ≤ hs.length
  apart : ∀ j, hv.ownBlock = some j → j ≠ s ∧ v.ownBlock ≠ some j
theorem Kept.still {w w' : World} {s B : Nat} {v hv : Value} {hs : List Ol.It} {b : Nat} (h : Kept w s B v hv hs b) (hg : w.grownBy w' none) : Kept w' s B v hv hs b := ⟨h.log.still hg, h.row.still hg, h.le, h.apart⟩
/-- The log has turned; the list has not. -/
theorem Kept.turn {w w' : World} {s B : Nat} {v v' hv : Value} {hs : List Ol.It} {b : Nat} (h : Kept w s B v hv hs b) (ht : Turns w w' s v) (hm : Moves w v v') : Row w' B 32 hv hs ∧ ∀ j, hv.ownBlock = some j → j ≠ s ∧ v'.ownBlock ≠ some j := by
  refine ⟨?_, fun j hj => ⟨(h.apart j hj).1, fun e => ?_⟩⟩
  · rcases h.row with h0 | ⟨g, off, cap, cur, rfl, hB, hh, h3⟩
    · exact .inl h0
    · refine .inr ⟨g, off, cap, cur, rfl, hB, ?_, h3⟩
      have := h.apart g rfl
      rw [ht.block g (Array.getElem?_eq_some_iff.1 hh).1 this.1 (fun e => this.2 e.symm), hh]
  · rcases hm with hm | hm
    · rw [hm] at e
      exact (h.apart j hj).2 e
    · have := hm j e
      have := (h.row.lt j hj).2
      omega
theorem Kept.block {w w' : World} {s B : Nat} {v hv : Value} {hs : List Ol.It} {b : Nat} (h : Kept w s B v hv hs b) {k : Nat} {o : Obj} (ho : (w.alloc o).heap[k]? = some o) (hk : k = w.heap.size) (ht : Turns (w.alloc o) w' s v) : w'.heap[k]? = some o := by
  have h' := h.still (World.grownBy_alloc w o none)
  rw [ht.block k (Array.getElem?_eq_some_iff.1 ho).1 (by have := h.log.lt; omega) (fun e => by have := (h.log.row.lt k e.symm).2; omega), ho]
theorem Kept.len {w : World} {s B : Nat} {v hv : Value} {hs : List Ol.It} {b : Nat} (h : Kept w s B v hv hs b) : (b : Int) + ((hs.drop b).length : Int) = hs.length := by
  have := h.le
  simp
  omega
/-- What Get tells of the i-th. -/
theorem Kept.get {hs : List Ol.It} {b i : Nat} (hb : b ≤ hs.length) (hi : i < hs.length) : Ol.getErr b (hs.drop b).length ((i : Int) + 1) = (if i < b then 50 else 0) ∧ (b ≤ i → Ol.at b (hs.drop b) ((i : Int) + 1) = hs.getD i Ol.d0) := by
  have hl : (hs.drop b).length = hs.length - b := by simp
  unfold Ol.getErr Ol.at
  rw [hl]
  by_cases h : i < b
  · rw [if_pos (by omega), if_pos h]
    exact ⟨rfl, fun h' => by omega⟩
  · rw [if_neg (by omega), if_neg (by omega), if_neg h]
    refine ⟨rfl, fun h' => ?_⟩
    rw [if_pos (by omega), show ((i : Int) + 1 - (b : Int) - 1).toNat = i - b by omega]
    simp only [List.getD_eq_getElem?_getD, List.getElem?_drop]
    rw [show b + (i - b) = i by omega]
abbrev E8 (x0 x1 x2 y0 y1 y2 : Int) (y3 : ByteArray) (vl : Value) : Obj := .cells #[.int .i64 x0, .int .i64 x1, .int .i64 x2, .int .i64 y0, .int .i64 y1, .int .i64 y2, .string y3, vl] 35
theorem eight_of {w : World} {b : Nat} {x0 x1 x2 y0 y1 y2 : Int} {y3 : ByteArray} {vl : Value} (hb : w.heap[b]? = some (E8 x0 x1 x2 y0 y1 y2 y3 vl)) : w.cell? ⟨b, 0, none⟩ = some (.int .i64 x0) ∧ w.cell? ⟨b, 1, none⟩ = some (.int .i64 x1) ∧ w.cell? ⟨b, 3, none⟩ = some (.int .i64 y0) ∧ w.cell? ⟨b, 4, none⟩ = some (.int .i64 y1) ∧ w.cell? ⟨b, 5, none⟩ = some (.int .i64 y2) ∧ w.cell? ⟨b, 6, none⟩ = some (.string y3) := by
  refine ⟨?_, ?_, ?_, ?_, ?_, ?_⟩ <;> simp [World.cell?, hb]
theorem kept_add {w2 w3 : World} {s B : Nat} {v' hv u3 : Value} {hs : List Ol.It} {y : Ol.It} {b : Nat} {o : Obj} (hl : LogAt w2 s b v' (hs.drop b ++ [y])) (hap : ∀ j, hv.ownBlock = some j → j ≠ s ∧ v'.ownBlock ≠ some j) (hle : b ≤ hs.length)
    (hg : (w2.alloc o).grownBy w3 hv.ownBlock) (hrow : Row w3 B 32 u3 (hs ++ [y])) (hmv : u3.ownBlock = hv.ownBlock ∨ ∀ j, u3.ownBlock = some j → (w2.alloc o).heap.size ≤ j) : Kept w3 s B v' u3 (hs ++ [y]) b := by
  have hl' := hl.still (World.grownBy_alloc w2 o none)
  have h1 : some s ≠ hv.ownBlock := fun e => (hap s e.symm).1 rfl
  have h2 : v'.ownBlock = none ∨ v'.ownBlock ≠ hv.ownBlock := by
    cases hv' : v'.ownBlock with
    | none => exact .inl rfl
    | some j => exact .inr fun e => (hap j e.symm).2 hv'
  refine ⟨?_, hrow, by simp; omega, fun j hj => ?_⟩
  · rw [List.drop_append_of_le_length hle]
    exact hl'.kept hg h1 h2
  · rcases hmv with hmv | hmv
    · exact hap j (by rw [← hmv]; exact hj)
    · have h3 := hmv j hj
      refine ⟨by have := hl'.lt; omega, fun e => ?_⟩
      have := (hl'.row.lt j e).2
      omega
theorem Row.prefix {w : World} {B n c : Nat} {e : TypeId} {p : Option Addr} {ls : List Ol.It} (h : Row w B e (.slice p n c) ls) {k : Nat} (hk : k ≤ ls.length) : Row w B e (.slice p k c) (ls.take k) := by
  rcases h with ⟨he, rfl⟩ | ⟨g, off, cap, cur, he, hr⟩
  · have : k = 0 := by simpa using hk
    subst this
    simp only [Value.slice.injEq] at he
    obtain ⟨rfl, _, rfl⟩ := he
    exact .inl ⟨rfl, rfl⟩
  · simp only [Value.slice.injEq] at he
    obtain ⟨rfl, rfl, rfl⟩ := he
    exact Row.take (.inr ⟨g, off, c, cur, rfl, hr⟩) hk (Nat.le_trans hk hr.2.2.1) (Nat.le_refl _)
theorem Row.cap {w : World} {B n c : Nat} {e : TypeId} {p : Option Addr} {ls : List Ol.It} (h : Row w B e (.slice p n c) ls) : ls.length ≤ c := by
  rcases h with ⟨he, rfl⟩ | ⟨g, off, cap, cur, he, hr⟩
  · simp
  · simp only [Value.slice.injEq] at he
    have := hr.2.2.1
    omega
theorem kept_cut {w w2 : World} {s B n c : Nat} {v v' : Value} {p : Option Addr} {hs : List Ol.It} {b k : Nat} (h : Kept w s B v (.slice p n c) hs b) (hl : LogAt w2 s b v' ((hs.drop b).take (k - b))) (ht : Turns w w2 s v) (hm : Moves w v v') (h1 : b ≤ k) (h2 : k ≤ hs.length) : Kept w2 s B v' (.slice p k c) (hs.take k) b := by
  obtain ⟨hr, ha⟩ := h.turn ht hm
  refine ⟨by rw [List.drop_take]; exact hl, hr.prefix h2, by simp; omega, fun j hj => ha j ?_⟩
  cases p with
  | none => simp [Value.ownBlock] at hj
  | some a => simpa [Value.ownBlock] using hj
theorem kept_trim {w w2 : World} {s B : Nat} {v v' hv : Value} {hs : List Ol.It} {b k : Nat} (h : Kept w s B v hv hs b) (hl : LogAt w2 s k v' ((hs.drop b).drop (k - b))) (ht : Turns w w2 s v) (hm : Moves w v v') (h1 : b ≤ k) (h2 : k ≤ hs.length) : Kept w2 s B v' hv hs k := by
  obtain ⟨hr, ha⟩ := h.turn ht hm
  refine ⟨?_, hr, h2, ha⟩
  rw [List.drop_drop, show b + (k - b) = k by omega] at hl
  exact hl
end Go.Proofs.Ytbjcleeiobaegaa
