/-
  What the law of stale handles holds from step to step: a table, the handles that were ever told, and which of them are gone.
-/
import Derived.Test.YtobcjnfombfdmaaAgain
import Derived.Test.YtobcjnfombfdmaaPlainS
import Derived.Test.YtobcjnfombfdmaaLaw
namespace Go.Proofs.Ytobcjnfombfdmaa
open Go.ChangeShapes Go.WideShapes Go.ChangeAt Go.RowKit Go.Deep It

def EB : Enc Bool := ⟨1, fun x => [.bool x], fun _ => rfl, fun x u hu => by
  simp at hu
  subst hu
  rfl⟩
theorem infoB : (Try.prog.info? 4).map (fun i => (i.zero, i.size, i.bytes)) = some (some (.bool false), 1, 1) := by kernel_rfl
structure StaleAt (w W : World) (t a g : Value) (T : List Rw) (hs : List (Int × Int)) : Prop where
  inv : Inv (pl T) hs
  tab : TabAt (fun b => some b ≠ a.ownBlock ∧ some b ≠ g.ownBlock) W t T
  all : Row EH W w.heap.size 31 a hs
  gon : Row EB W w.heap.size 4 g (gones (pl T) hs)
  apart : g.ownBlock = none ∨ g.ownBlock ≠ a.ownBlock
  below : Below w.heap.size w W
theorem StaleAt.up {w W W' : World} {t a g : Value} {T : List Rw} {hs : List (Int × Int)} (h : StaleAt w W t a g T hs) (hb : Below W.heap.size W W') : StaleAt w W' t a g T hs :=
  ⟨h.inv, h.tab.up hb, h.all.up hb, h.gon.up hb, h.apart, h.below.trans (hb.mono h.below.size)⟩
theorem StaleAt.start {w W : World} {t : Value} {T : List Rw} (ht : TabAt (fun b => w.heap.size ≤ b) W t T) (hp : pl T = new) (hb : Below w.heap.size w W) : StaleAt w W t (.slice none 0 0) (.slice none 0 0) T [] :=
  ⟨by rw [hp]; exact inv_new, ht.imp fun b _ _ => ⟨by simp [Value.ownBlock], by simp [Value.ownBlock]⟩, Row.nil _ _ _ _, Row.nil _ _ _ _, .inl rfl, hb⟩
theorem TabAt.keep {S T : Nat → Prop} {w w' : World} {v : Value} {L : List Rw} (h : TabAt S w v L) (hs : w.heap.size ≤ w'.heap.size) (hk : ∀ b, S b → b < w.heap.size → w'.heap[b]? = w.heap[b]? ∧ T b) : TabAt T w' v L := ⟨h.1.keep hs hk, fun x hx => (h.2 x hx).keep hs hk⟩
theorem stale_make {w wr W1 W2 w7 w8 : World} {t a g u v7 v8 : Value} {T T' : List Rw} {hs : List (Int × Int)} {kind : Int} {o3 o4 o5 : Obj}
    (hst : StaleAt w wr t a g T hs) (h1 : Below wr.heap.size wr W1) (h2 : Below W1.heap.size W1 W2) (ht : TabAt (fun b => W1.heap.size ≤ b) W2 u T') (hp : pl T' = makeTab (pl T) kind 0) (he : makeErr (pl T) kind 0 = 0)
    (hr7 : Row EH w7 w.heap.size 31 v7 (hs ++ [makeH (pl T) kind 0])) (hg7 : ((W2.alloc o3).alloc o4).grownBy w7 a.ownBlock) (hm7 : v7.ownBlock = a.ownBlock ∨ ∀ j, v7.ownBlock = some j → ((W2.alloc o3).alloc o4).heap.size ≤ j)
    (hr8 : Row EB w8 w.heap.size 4 v8 (gones (pl T) hs ++ [false])) (hg8 : (w7.alloc o5).grownBy w8 g.ownBlock) (hm8 : v8.ownBlock = g.ownBlock ∨ ∀ j, v8.ownBlock = some j → (w7.alloc o5).heap.size ≤ j) :
    StaleAt w w8 u v7 v8 T' (hs ++ [makeH (pl T) kind 0]) := by
  have s1 := h1.size
  have s2 := h2.size
  have s3 : ((W2.alloc o3).alloc o4).heap.size = W2.heap.size + 2 := by simp
  have s7 := hg7.size
  have s7' : (w7.alloc o5).heap.size = w7.heap.size + 1 := by simp
  have s8 := hg8.size
  have la := hst.all.lt
  have lg := hst.gon.lt
  have hbw : Below w.heap.size w W2 := (hst.below.trans (h1.mono hst.below.size)).trans (h2.mono (by have := hst.below.size; omega))
  have hsz := hst.below.size
  have hb7 : Below w.heap.size w w7 := ((hbw.alloc (by omega) o3).alloc (by simp; omega) o4).grown hg7 (by omega) (fun k hk => (la k hk).1)
  have hb8 : Below w.heap.size w w8 := (hb7.alloc (by omega) o5).grown hg8 (by omega) (fun k hk => (lg k hk).1)
  have hi := inv_make hst.inv he
  have l7 := hr7.lt
  refine ⟨by rw [hp]; exact hi.1, ?_, ?_, by rw [hp, hi.2]; exact hr8, ?_, hb8⟩
  · refine ht.keep (by omega) fun b hS hl => ⟨?_, ?_, ?_⟩
    · rw [hg8.block b (by omega) (fun e => by have := (lg b e.symm).2; omega), Below.heap_alloc _ _ _ (by omega), hg7.block b (by omega) (fun e => by have := (la b e.symm).2; omega), Below.heap_alloc _ _ _ (by simp; omega), Below.heap_alloc _ _ _ hl]
    · rcases hm7 with hm | hm
      · rw [hm]
        intro e
        have := (la b e.symm).2
        omega
      · intro e
        have := hm b e.symm
        omega
    · rcases hm8 with hm | hm
      · rw [hm]
        intro e
        have := (lg b e.symm).2
        omega
      · intro e
        have := hm b e.symm
        omega
  · refine (hr7.still (World.grownBy_alloc w7 o5 none)).kept hg8 ?_
    rcases hm7 with hm | hm
    · rw [hm]
      rcases hst.apart with h0 | h0
      · cases ha : a.ownBlock with
        | none => exact .inl rfl
        | some j => rw [h0]; exact .inr (by simp)
      · exact .inr h0.symm
    · cases hv : v7.ownBlock with
      | none => exact .inl rfl
      | some j =>
        refine .inr fun e => ?_
        have h3 := hm j hv
        have h4 := (lg j e.symm).2
        omega
  · cases hv : v8.ownBlock with
    | none => exact .inl rfl
    | some j =>
      refine .inr fun e => ?_
      rcases hm8 with hm | hm
      · have hgj : g.ownBlock = some j := by rw [← hm, hv]
        rcases hm7 with hm' | hm'
        · rcases hst.apart with h0 | h0
          · rw [h0] at hgj
            cases hgj
          · exact h0 (by rw [hgj, e, hm'])
        · have h3 := hm' j e.symm
          have h4 := (lg j hgj).2
          omega
      · have h3 := hm j hv
        have h4 := (l7 j e.symm).2
        omega
theorem Row.put1 {w : World} {B : Nat} {v : Value} {ls : List Bool} (h : Row EB w B 4 v ls) {p : Nat} (hp : p < ls.length) (b : Bool) : ∃ gg cap, v = .slice (some ⟨gg, 0, none⟩) ls.length cap ∧ Row EB (w.setCell ⟨gg, p, none⟩ (.bool b)) B 4 v (ls.set p b) ∧ w.grownBy (w.setCell ⟨gg, p, none⟩ (.bool b)) (some gg) ∧ w.frozen? ⟨gg, p, none⟩ = false ∧ B ≤ gg ∧ gg < w.heap.size := by
  rcases h with ⟨rfl, rfl⟩ | ⟨gg, cap, cur, rfl, hB, hh, h1, h2, h3, h4⟩
  · simp at hp
  · have e1 : EB.sz = 1 := rfl
    have hps : p < cur.size := by rw [e1] at h3; omega
    have hlt : gg < w.heap.size := (Array.getElem?_eq_some_iff.1 hh).1
    have hset : (w.setCell ⟨gg, p, none⟩ (.bool b)).heap[gg]? = some (.cells (cur.setIfInBounds p (.bool b)) 4 (0, 0)) := by
      rw [setCell_eq_setRow w gg p cur _ _ _ hh, setRow_heap w gg cur _ _ _ hh]
    refine ⟨gg, cap, rfl, .inr ⟨gg, cap, _, by simp, hB, hset, by simpa using h1, h2, by simpa using h3, ?_⟩, ⟨rfl, rfl, rfl, by simp [World.setCell], fun k _ hk => Below.heap_setCell _ _ _ _ (fun e => hk (by simp [e]))⟩, by simp [World.frozen?, hh], hB, hlt⟩
    rw [e1, Nat.mul_one] at h4 ⊢
    rw [List.length_set, Array.toList_setIfInBounds, List.take_set, h4]
    have hflat : ∀ l : List Bool, EB.flat l = l.map Value.bool := fun l => by
      induction l with
      | nil => rfl
      | cons y l ih =>
        have e : EB.flat (y :: l) = Value.bool y :: EB.flat l := rfl
        rw [e, ih]
        rfl
    rw [hflat, hflat, List.map_set]
theorem stale_drop {w W W2 : World} {t a g u : Value} {T T' : List Rw} {hs : List (Int × Int)} {p gg : Nat} {hd : Int × Int} {cap : Nat}
    (hst : StaleAt w W t a g T hs) (h2 : Below W.heap.size W W2) (ht : TabAt (fun b => W.heap.size ≤ b) W2 u T') (hp : pl T' = dropTab (pl T) hd.1 hd.2) (hh : hs[p]? = some hd) (hn : names (pl T) hd.1 hd.2 = true)
    (hgv : g = .slice (some ⟨gg, 0, none⟩) hs.length cap) : StaleAt w (W2.setCell ⟨gg, p, none⟩ (.bool true)) u a g T' hs ∧ W2.frozen? ⟨gg, p, none⟩ = false := by
  obtain ⟨_, hi, hgs⟩ := inv_drop hst.inv hh hn
  have hpl : p < hs.length := (List.getElem?_eq_some_iff.1 hh).1
  obtain ⟨gg', cap', hv', hrow, hgr, hfz, hB, hlt⟩ := (hst.gon.up h2).put1 (p := p) (by rw [gones_length]; exact hpl) true
  rw [hgv] at hv'
  simp only [Value.slice.injEq, Option.some.injEq, Addr.mk.injEq, and_true] at hv'
  obtain ⟨rfl, _, rfl⟩ := hv'
  have hgb : g.ownBlock = some gg := by rw [hgv]; rfl
  have lg := hst.gon.lt gg hgb
  have s2 := h2.size
  have la := hst.all.lt
  refine ⟨⟨by rw [hp]; exact hi, ?_, ?_, by rw [hp, hgs]; exact hrow, hst.apart, ?_⟩, hfz⟩
  · refine ht.keep (by simp [World.setCell]) fun b hS hl => ⟨Below.heap_setCell _ _ _ _ (by simp; omega), ?_, ?_⟩
    · intro e
      have := (la b e.symm).2
      omega
    · rw [hgb]
      intro e
      simp at e
      omega
  · refine (hst.all.up h2).kept hgr ?_
    rcases hst.apart with h0 | h0
    · rw [hgb] at h0
      cases h0
    · rw [hgb] at h0
      exact .inr (fun e => h0 e.symm)
  · exact ((hst.below.trans (h2.mono hst.below.size))).setCell (p := ⟨gg, p, none⟩) hB _
end Go.Proofs.Ytobcjnfombfdmaa
