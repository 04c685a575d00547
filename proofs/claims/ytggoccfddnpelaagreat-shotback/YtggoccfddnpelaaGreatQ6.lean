/- Rg, Fol, as one. -/
import Derived.RangeFuncBound
import Derived.RangeFuncLeaves
import Derived.Shelf.Abstract
import Derived.Shelf.RegionOpen
import Derived.OwnWalkIn
import Derived.TacticsInMore
import Derived.LoopNIn
import Derived.LoopIn
import Derived.Test.YtggoccfddnpelaaGreatQ4
namespace Go.Proofs.YtggoccfddnpelaaGreat
open Go.RowKit
set_option maxRecDepth 100000
variable {α : Type} {P : Program}
/-- The blocks that the outermost loop's body writes: the box of its variable, and the row that the variable has. -/
def Mine (Bx : Nat) (W : World) (k : Nat) : Prop := k = Bx ∨ ∃ v, W.cell? ⟨Bx, 0, none⟩ = some v ∧ v.ownBlock = some k
/-- The box is there. -/
def HasBox (Bx : Nat) (W : World) : Prop := ∃ v, W.cell? ⟨Bx, 0, none⟩ = some v ∧ ∀ k, v.ownBlock = some k → k < W.heap.size
/-- What a round keeps. -/
structure Kp (Bx : Nat) (W W' : World) : Prop where
  os : W'.os = W.os
  tape : W'.tape = W.tape
  output : W'.output = W.output
  size : W.heap.size ≤ W'.heap.size
  box : HasBox Bx W → HasBox Bx W'
  keep : ∀ k, k < W.heap.size → ¬ Mine Bx W k → W'.heap[k]? = W.heap[k]?
  mine : ∀ k, k < W.heap.size → Mine Bx W' k → Mine Bx W k
  others : ∀ (k : Nat) (o : Obj), W.heap[k]? = some o → o.isCells = false → W'.heap[k]? = some o
theorem HasBox.lt {Bx : Nat} {W : World} (h : HasBox Bx W) : Bx < W.heap.size := by
  obtain ⟨v, hv, -⟩ := h
  exact World.block_lt_of_cell? _ _ hv
theorem HasBox.ne {Bx l : Nat} {W : World} {o : Obj} (h : HasBox Bx W) (hl : W.heap[l]? = some o) (ho : o.isCells = false) : Bx ≠ l := by
  rintro rfl
  obtain ⟨v, hv, -⟩ := h
  unfold World.cell? at hv
  rw [show W.heap[(⟨Bx, 0, none⟩ : Addr).block]? = some o from hl] at hv
  cases o <;> simp [Obj.isCells] at hv ho
theorem mine_same {Bx : Nat} {W W' : World} (h : W'.heap[Bx]? = W.heap[Bx]?) (k : Nat) : Mine Bx W' k ↔ Mine Bx W k := by
  unfold Mine
  rw [World.cell?_of_block (a := ⟨Bx, 0, none⟩) h]
theorem HasBox.up {Bx : Nat} {W W' : World} (hb : HasBox Bx W) (h : W'.heap[Bx]? = W.heap[Bx]?) (hs : W.heap.size ≤ W'.heap.size) : HasBox Bx W' := by
  obtain ⟨v, hv, hk⟩ := hb
  exact ⟨v, (World.cell?_of_block (a := ⟨Bx, 0, none⟩) h).trans hv, fun k e => Nat.lt_of_lt_of_le (hk k e) hs⟩
/-- What is laid since is none of the body's. -/
theorem HasBox.new {Bx : Nat} {W W' : World} (hb : HasBox Bx W) (hg : W.grownBy W' none) {k : Nat} (hk : W.heap.size ≤ k) : ¬ Mine Bx W' k := by
  have hlt := hb.lt
  rw [mine_same (hg.block Bx hlt (by simp))]
  obtain ⟨v, hv, ho⟩ := hb
  rintro (rfl | ⟨u, hu, he⟩)
  · omega
  · rw [hv] at hu
    cases hu
    have := ho k he
    omega
theorem Kp.refl (Bx : Nat) (W : World) : Kp Bx W W := ⟨rfl, rfl, rfl, Nat.le_refl _, id, fun _ _ _ => rfl, fun _ _ h => h, fun _ _ h _ => h⟩
theorem Kp.trans {Bx : Nat} {X Y Z : World} (h : Kp Bx X Y) (k : Kp Bx Y Z) : Kp Bx X Z :=
  ⟨k.os.trans h.os, k.tape.trans h.tape, k.output.trans h.output, Nat.le_trans h.size k.size, fun b => k.box (h.box b),
    fun i hi hn => (k.keep i (Nat.lt_of_lt_of_le hi h.size) (fun hm => hn (h.mine i hi hm))).trans (h.keep i hi hn),
    fun i hi hm => h.mine i hi (k.mine i (Nat.lt_of_lt_of_le hi h.size) hm), fun i o hi ho => k.others i o (h.others i o hi ho) ho⟩
theorem Kp.still {Bx : Nat} {W W' : World} (hb : HasBox Bx W) (hg : W.grownBy W' none) : Kp Bx W W' :=
  have e := hg.block Bx hb.lt (by simp)
  ⟨hg.os, hg.tape, hg.output, hg.size, fun h => h.up e hg.size, fun k hk _ => hg.block k hk (by simp), fun k _ hm => (mine_same e k).1 hm,
    fun k o hk _ => (hg.block k (Array.getElem?_eq_some_iff.1 hk).1 (by simp)).trans hk⟩
theorem Kp.alloc {Bx : Nat} {W : World} (hb : HasBox Bx W) (o : Obj) : Kp Bx W (W.alloc o) := Kp.still hb (World.grownBy_alloc W o none)
theorem Kp.cell {Bx : Nat} {W W' : World} (h : Kp Bx W W') {k o : Nat} (hn : ¬ Mine Bx W k) (hk : k < W.heap.size) : W'.cell? ⟨k, o, none⟩ = W.cell? ⟨k, o, none⟩ :=
  World.cell?_of_block (a := ⟨k, o, none⟩) (h.keep k hk hn)
theorem Kp.safe {Bx : Nat} {W W' : World} (h : Kp Bx W W') {k : Nat} (hn : ¬ Mine Bx W k) (hk : k < W.heap.size) : ¬ Mine Bx W' k := fun hm => hn (h.mine k hk hm)
theorem kp_own {β : Type} {Bx B : Nat} {W0 : World} (hb : HasBox Bx W0) (hB : W0.heap.size ≤ B) : OwnFrom B (fun (_ : β) W => Kp Bx W0 W) := fun _ W W' row h hg hr => by
  have hne : ∀ k, k < W0.heap.size → some k ≠ row := fun k hk e => by have := (hr k e.symm).1; omega
  have hbl := hb.lt
  have e : W'.heap[Bx]? = W.heap[Bx]? := hg.block Bx (Nat.lt_of_lt_of_le hbl h.size) (hne Bx hbl)
  refine ⟨hg.os.trans h.os, hg.tape.trans h.tape, hg.output.trans h.output, Nat.le_trans h.size hg.size, fun b => (h.box b).up e hg.size,
    fun k hk hn => (hg.block k (Nat.lt_of_lt_of_le hk h.size) (hne k hk)).trans (h.keep k hk hn), fun k hk hm => h.mine k hk ((mine_same e k).1 hm), fun k o hk ho => ?_⟩
  have hk0 := (Array.getElem?_eq_some_iff.1 hk).1
  exact (hg.block k (Nat.lt_of_lt_of_le hk0 h.size) (hne k hk0)).trans (h.others k o hk ho)
/-- A round of which the record is busy in between. -/
theorem kp_round {Bx l : Nat} {W W3 : World} {r r' : Loop} (hne : Bx ≠ l) (hl : W.heap[l]? = some (.loop r)) (h : Kp Bx (W.putObj l (.loop r')) W3) : Kp Bx W (W3.putObj l (.loop r)) := by
  have e1 : (W.putObj l (.loop r')).heap[Bx]? = W.heap[Bx]? := World.putObj_heap_other hne
  have e2 : (W3.putObj l (.loop r)).heap[Bx]? = W3.heap[Bx]? := World.putObj_heap_other hne
  have hs : W.heap.size ≤ W3.heap.size := by have := h.size; rwa [World.putObj_size] at this
  have hlt : l < W3.heap.size := Nat.lt_of_lt_of_le (Array.getElem?_eq_some_iff.1 hl).1 hs
  refine ⟨h.os, h.tape, h.output, by rw [World.putObj_size]; exact hs, fun b => (h.box (b.up e1 (by rw [World.putObj_size]; exact Nat.le_refl _))).up e2 (by rw [World.putObj_size]; exact Nat.le_refl _), fun k hk hn => ?_, fun k hk hm => ?_, fun k o hk ho => ?_⟩
  · by_cases e : k = l
    · subst e
      rw [World.putObj_heap_same hlt, hl]
    · rw [World.putObj_heap_other e, h.keep k (by rw [World.putObj_size]; exact hk) (fun hm => hn ((mine_same e1 k).1 hm)), World.putObj_heap_other e]
  · exact (mine_same e1 k).1 (h.mine k (by rw [World.putObj_size]; exact hk) ((mine_same e2 k).1 hm))
  · by_cases e : k = l
    · subst e
      rw [hl] at hk
      cases hk
      exact World.putObj_heap_same hlt
    · rw [World.putObj_heap_other e]
      exact h.others k o (by rw [World.putObj_heap_other e]; exact hk) ho
/-- What a call of yield does, of the loop whose record is l: it goes on, or it is told to stop. -/
def Yields (P : Program) (l : Nat) (encs : α → Array Value) (Bx : Nat) (xs : List α) (J Jx : List α → World → Prop) : Prop :=
  ∀ (m : Nat) (pre : List α) (x : α) (W : World), pre ++ [x] <+: xs → J pre W → YieldAt Fence.wide m P l (encs x) W fun e W' =>
    (e = .returned (.bool true) ∧ J (pre ++ [x]) W' ∧ Kp Bx W W') ∨ (e = .returned (.bool false) ∧ Jx (pre ++ [x]) W' ∧ KeepsFrom (l + 1) W W')
/-- An iterator that hands xs over, one behind the other. -/
def SeqOwn (P : Program) (g : Nat) (lb : Array Value) (encs : α → Array Value) (Bx : Nat) (xs : List α) (w : World) : Prop :=
  ∀ (n l : Nat) (J Jx : List α → World → Prop) (W : World), w.grownBy W none → l < W.heap.size → OwnFrom W.heap.size J → OwnFrom W.heap.size Jx → Yields P l encs Bx xs J Jx → J [] W →
    CallsIn Fence.wide n P g (#[.func (.yield l) #[] #[]] ++ lb) W fun e W' => (∃ v, e = .returned v) ∧ (J xs W' ∨ ∃ pre, pre <+: xs ∧ Jx pre W')
/-- How a round's body is left. -/
def rgPost (B Bx : Nat) (I Ix : List α → World → Prop) (xs : List α) (W : World) : Exit → Act → World → Prop
  | .normal, _, W' => Kp Bx W W' ∧ I xs W'
  | .ret, _, W' => KeepsFrom B W W' ∧ Ix xs W'
  | _, _, _ => False
theorem range_law {g : Operand} {ps : Array Tmp} {assign body : Code} {Q : Exit → Act → World → Prop} {a : Act} {w : World} {n gf : Nat} {lb : Array Value} {encs : α → Array Value} {Bx : Nat} {xs : List α}
    (hg : a.eval g = .func (.func gf) #[] lb) (eg : ∀ args w, (callFunc gf args).run P w = .ok (.enter gf args) w) (hbx : HasBox Bx w) (hseq : SeqOwn P gf lb encs Bx xs w) (hps : ∀ x, (encs x).size = ps.size)
    (I Ix : List α → World → Prop) (hI : OwnFrom w.heap.size I) (hIx : OwnFrom w.heap.size Ix) (h0 : I [] w) (a₁ : α → Act)
    (hassign : ∀ (l m : Nat) (x : α) (W : World) (K : Act → World → Prop), K (a₁ x) W → assign.wpIn (Fence.wide.inRound l) m P (Exit.then K (fun _ _ _ => False)) { tmps := (ps.zip (encs x)).foldl (fun t (p, v) => t.setIfInBounds p v) a.tmps, defers := [] } W)
    (hbody : ∀ (l m : Nat) (pre : List α) (x : α) (W : World), w.heap.size ≤ l → pre ++ [x] <+: xs → I pre W → body.wpIn (Fence.wide.inRound l) m P (rgPost w.heap.size Bx I Ix (pre ++ [x]) W) (a₁ x) W)
    (hdone : ∀ (D : Nat) (W : World), w.heap.size ≤ D → I xs W → W.heap[D]? = some (.deferred (some [])) → Q .normal { a with defers := { target := .collected D, args := #[] } :: a.defers } W)
    (hstop : ∀ (D : Nat) (pre : List α) (W : World), w.heap.size ≤ D → pre <+: xs → Ix pre W → W.heap[D]? = some (.deferred (some [])) → Code.ret.wpIn Fence.wide n P Q { a with defers := { target := .collected D, args := #[] } :: a.defers } W) :
    (Code.rangeFunc g ps assign body).wpIn Fence.wide n P Q a w := by
  refine wpIn_rangeFunc fun fn hfn => ?_
  obtain ⟨D, hD⟩ : ∃ D, w.heap.size = D := ⟨_, rfl⟩
  obtain ⟨rec, hrec⟩ : ∃ rec : LoopState → Option Code → Loop, rec = fun st pe => { state := st, pending := pe, fn, tmps := a.tmps, params := ps, assign, body, defers := w.heap.size } := ⟨_, rfl⟩
  obtain ⟨V, hV⟩ : ∃ V, (w.alloc (.deferred (some []))).alloc (.loop (rec .ready none)) = V := ⟨_, rfl⟩
  have hgV : w.grownBy V none := by rw [← hV]; exact grown_trans (World.grownBy_alloc w _ none) (World.grownBy_alloc _ _ none)
  have hVs : V.heap.size = D + 2 := by rw [← hV]; simp [hD]
  have hVl : V.heap[D + 1]? = some (.loop (rec .ready none)) := by
    rw [← hV]
    have := World.alloc_heap_new (w.alloc (.deferred (some []))) (.loop (rec .ready none))
    rwa [World.size_alloc, hD] at this
  have hVd : V.heap[D]? = some (.deferred (some [])) := by
    rw [← hV, ← hD]
    exact (Below.heap_alloc _ _ _ (by simp)).trans (World.alloc_heap_new w _)
  have hbl := hbx.lt
  have hne : Bx ≠ D + 1 := by omega
  refine ⟨D + 1, [{ target := .collected D, args := #[] }], V, { target := .fn (.func gf) lb, args := #[.func (.yield (D + 1)) #[] #[]] }, V, gf, #[.func (.yield (D + 1)) #[] #[]] ++ lb, V, ?_, ?_, fun _ _ => trivial, ?_, fun h => (by cases h), ?_⟩
  · rw [← hV, hrec, ← hD]
    exact run_enterLoop_outer _ _ _ _ _
  · simp only [resolve, hg]
    simp [go_sem]
  · simp [invoke, go_sem, eg]
  have own2 : ∀ {K : List α → World → Prop} {r : Loop}, OwnFrom w.heap.size K → OwnFrom V.heap.size (fun pre W => K pre W ∧ W.heap[D + 1]? = some (.loop r) ∧ W.heap[D]? = some (.deferred (some []))) := fun hK s A B row hs hg' hr => by
    refine ⟨hK s A B row hs.1 hg' (fun r e => ?_), ?_, ?_⟩
    · obtain ⟨h1, h2⟩ := hr r e
      exact ⟨by omega, h2⟩
    · rw [hg'.block (D + 1) (Array.getElem?_eq_some_iff.1 hs.2.1).1 (fun e => by have := (hr _ e.symm).1; omega)]
      exact hs.2.1
    · rw [hg'.block D (Array.getElem?_eq_some_iff.1 hs.2.2).1 (fun e => by have := (hr _ e.symm).1; omega)]
      exact hs.2.2
  refine (hseq (n - 1) (D + 1) (fun pre W => I pre W ∧ W.heap[D + 1]? = some (.loop (rec .ready none)) ∧ W.heap[D]? = some (.deferred (some [])))
    (fun pre W => Ix pre W ∧ W.heap[D + 1]? = some (.loop (rec .done (some .ret))) ∧ W.heap[D]? = some (.deferred (some []))) V hgV (by omega) (own2 hI) (own2 hIx) ?_ ⟨?_, hVl, hVd⟩).mono ?_
  · rintro m pre x W hpx ⟨hi, hl, hk⟩
    have hy := run_yield (P := P) (args := encs x) hl (by rw [hrec]; exact hps x)
    rw [hrec] at hy
    have hlt := (Array.getElem?_eq_some_iff.1 hl).1
    refine ⟨fn, _, assign, body, hy, roundIn_of_wpIn hfn (hassign _ _ x W _ ⟨_, run_beginRound hl (by rw [hrec]), ?_⟩)⟩
    clear hy
    have hl2 : (W.putObj (D + 1) (.loop { rec .ready none with state := .busy })).heap[D + 1]? = some (.loop { rec .ready none with state := .busy }) := World.putObj_heap_same hlt
    have hk2 : (W.putObj (D + 1) (.loop { rec .ready none with state := .busy })).heap[D]? = some (.deferred (some [])) := (World.putObj_heap_other (by omega)).trans hk
    refine wpIn_mono (hbody _ _ pre x _ (by omega) hpx (hI.putObj _ hi (by omega) hl rfl)) ?_
    rintro e a3 W3 hp
    cases e with
    | normal =>
      obtain ⟨hk3, hi3⟩ := hp
      have hl3 := hk3.others _ _ hl2 rfl
      have hr := run_endRound (P := P) none hl3
      have hlt3 := (Array.getElem?_eq_some_iff.1 hl3).1
      have hk4 := hk3.others _ _ hk2 rfl
      have hk5 := kp_round (r := rec .ready none) hne hl hk3
      have hi5 := hI.putObj (.loop (rec .ready none)) hi3 (by omega) hl3 rfl
      rw [hrec] at hr hk5 hi5 ⊢
      exact ⟨_, _, hr, .inl ⟨rfl, ⟨hi5, World.putObj_heap_same hlt3, (World.putObj_heap_other (by omega)).trans hk4⟩, hk5⟩⟩
    | ret =>
      obtain ⟨hk3, hi3⟩ := hp
      have hl3 := hk3.same _ _ (by omega) hl2 rfl
      have hr := run_endRound (P := P) (some .ret) hl3
      have hlt3 := (Array.getElem?_eq_some_iff.1 hl3).1
      have hk4 := hk3.same _ _ (by omega) hk2 rfl
      have hi5 := hIx.putObj (.loop (rec .done (some .ret))) hi3 (by omega) hl3 rfl
      have hkf : ∀ o', KeepsFrom (D + 1 + 1) W (W3.putObj (D + 1) o') := fun o' => ⟨by
        have := hk3.size
        rw [World.putObj_size] at this ⊢
        exact this, fun k o hB h1 h2 => by
        rw [World.putObj_heap_other (by omega)]
        exact hk3.same k o (by omega) (by rw [World.putObj_heap_other (by omega)]; exact h1) h2⟩
      rw [hrec] at hr hi5 ⊢
      exact ⟨_, _, hr, .inr ⟨rfl, ⟨hi5, World.putObj_heap_same hlt3, (World.putObj_heap_other (by omega)).trans hk4⟩, hkf _⟩⟩
    | exit id => exact hp.elim
    | goto t => exact hp.elim
    | panic ch => exact hp.elim
    | outgrown => exact hp.elim
  · exact hI [] w V none h0 hgV (fun r e => by cases e)
  · rintro e W2 ⟨⟨v, rfl⟩, (⟨hi, hl, hk⟩ | ⟨pre, hpre, hi, hl, hk⟩)⟩
    · have hr := run_endLoop (P := P) hl (by rw [hrec]; simp)
      have hi5 := hI.putObj (.loop { rec .ready none with state := .exhausted }) hi (by omega) hl rfl
      rw [hrec] at hr hi5
      exact ⟨none, _, hr, hdone D _ (by omega) hi5 ((World.putObj_heap_other (by omega)).trans hk)⟩
    · have hr := run_endLoop (P := P) hl (by rw [hrec]; simp)
      have hi5 := hIx.putObj (.loop { rec .done (some .ret) with state := .exhausted }) hi (by omega) hl rfl
      rw [hrec] at hr hi5
      exact ⟨some .ret, _, hr, hstop D pre _ (by omega) hpre hi5 ((World.putObj_heap_other (by omega)).trans hk)⟩
/-- Marks of loops over iterators, each its own. -/
def marks (ds : List Nat) : List Deferred := ds.map fun D => { target := .collected D, args := #[] }
def Open (B : Nat) (ds : List Nat) (W : World) : Prop := ds.Nodup ∧ ∀ D ∈ ds, B ≤ D ∧ W.heap[D]? = some (.deferred (some []))
theorem Open.cons {B D : Nat} {ds : List Nat} {w W : World} (h : Open B ds w) (hs : ∀ D ∈ ds, W.heap[D]? = some (.deferred (some []))) (hD : B ≤ D) (hw : w.heap.size ≤ D) (hk : W.heap[D]? = some (.deferred (some []))) : Open B (D :: ds) W := by
  refine ⟨List.nodup_cons.2 ⟨fun hm => ?_, h.1⟩, fun E hE => ?_⟩
  · have := (Array.getElem?_eq_some_iff.1 (h.2 D hm).2).1
    omega
  · rcases List.mem_cons.1 hE with rfl | hE
    · exact ⟨hD, hk⟩
    · exact ⟨(h.2 E hE).1, hs E hE⟩
/-- At a function's end all its marks are taken, one behind the other. -/
theorem leaves_marks {n : Nat} {fn : Func} {tmps : Array Value} {R : Ending → World → Prop} {B : Nat} (K : World → Prop) (hK : OwnFrom B (fun (_ : Unit) W => K W)) (hend : ∀ W, K W → LeavesInM Fence.wide n P fn tmps R [] .returning W) :
    ∀ (ds : List Nat) (W : World), Open B ds W → K W → LeavesInM Fence.wide n P fn tmps R (marks ds) .returning W
  | [], W, _, h => hend W h
  | D :: ds, W, ho, h => by
    obtain ⟨hB, hk⟩ := ho.2 D (by simp)
    have hn := List.nodup_cons.1 ho.1
    refine ⟨by simp, .inl ⟨D, _, rfl, run_takeDeferred hk, leaves_marks K hK hend ds _ ⟨hn.2, fun E hE => ?_⟩ (hK.putObj (s := ()) _ h hB hk rfl)⟩⟩
    obtain ⟨h1, h2⟩ := ho.2 E (by simp [hE])
    have hne : E ≠ D := fun e => hn.1 (by rw [← e]; exact hE)
    exact ⟨h1, (World.putObj_heap_other hne).trans h2⟩
end Go.Proofs.YtggoccfddnpelaaGreat
namespace Go.Proofs.YtggoccfddnpelaaGreat
open Go.ChangeShapes Go.WideShapes Go.ChangeAt Go.RowKit Go.Deep Go.Shelf It
set_option maxRecDepth 100000
attribute [local go_sem] Oper.semAt_some
abbrev PT (b : Nat) : Value := .pointer (some ⟨b, 0, none⟩)
def encF (x : Nat × ByteArray) : Array Value := #[.int .i64 x.1, .string x.2]
theorem folders_any (v : Value) (no : Int) (path : ByteArray) (w : World) (hv : ∃ ao n cap, v = .slice ao n cap) :
    Calls Tryz.prog 121 #[v, .int .i64 no, .string path] w fun e w' => e = .returned (.func (.func 151) #[] #[PT (w.heap.size + 1), PT (w.heap.size + 1 + 1), PT w.heap.size]) ∧
      w' = ((w.alloc (.cells #[v] 23)).alloc (.cells #[.int .i64 no] 3)).alloc (.cells #[.string path] 9) := by
  obtain ⟨ao, n, cap, rfl⟩ := hv
  go_enter Tryz.func121, Tryz.ntmps121
  go_wp2
  go_ret
  exact ⟨rfl, rfl⟩
theorem RoundIn.inRound {F : Fence} {m : Nat} {P : Program} {l l' : Nat} {f : FuncId} {tmps : Array Value} {assign body : Code} {w : World} {R : Ending → World → Prop} (h : RoundIn F m P l f tmps assign body w R) : RoundIn (F.inRound l') m P l f tmps assign body w R := h
theorem eight.kp {w V : World} {b o Bx : Nat} {x : Rw} (h : eight w b o x) (hk : Kp Bx w V) (hn : ¬ Mine Bx w b) (hb : b < w.heap.size) : eight V b o x := by
  obtain ⟨h0, h1, h2, h3, h4, h5, h6, h7⟩ := h
  exact ⟨(hk.cell hn hb).trans h0, (hk.cell hn hb).trans h1, (hk.cell hn hb).trans h2, (hk.cell hn hb).trans h3, (hk.cell hn hb).trans h4, (hk.cell hn hb).trans h5, (hk.cell hn hb).trans h6, (hk.cell hn hb).trans h7⟩
theorem tab_kp {w V : World} {Bx n₀ : Nat} {v : Value} {L : List Rw} (h : TabAt (fun b => b < n₀) w v L) (hk : Kp Bx w V) (hs : ∀ b, b < n₀ → ¬ Mine Bx w b) : TabAt (fun b => b < n₀) V v L :=
  have k : ∀ b, b < n₀ → b < w.heap.size → V.heap[b]? = w.heap[b]? ∧ b < n₀ := fun b hb hl => ⟨hk.keep b hl (hs b hb), hb⟩
  ⟨h.1.keep hk.size k, fun x hx => ⟨(h.2 x hx).1.keep hk.size k, (h.2 x hx).2.1.keep hk.size k, (h.2 x hx).2.2⟩⟩
theorem ents_at {L : List Rw} {no : Nat} {x : Rw} (h : L[no]? = some x) : Sp.entsAt (pl L) no = x.i.ents ∧ Sp.dirAt (pl L) no = (x.i.kind == 2) := by
  unfold Sp.entsAt Sp.dirAt
  rw [show (pl L)[no]? = some x.i from by simp [h]]
  exact ⟨rfl, rfl⟩
/-- The four cells of an entry. -/
abbrev ent4 (V : World) (b o : Nat) (e : Sp.En) : Prop := V.cell? ⟨b, o, none⟩ = some (.string e.1) ∧ V.cell? ⟨b, o + 1, none⟩ = some (.int .i64 e.2.1) ∧ V.cell? ⟨b, o + 2, none⟩ = some (.int .i64 e.2.2.1) ∧ V.cell? ⟨b, o + 3, none⟩ = some (.int .i64 e.2.2.2)
abbrev BEn (e : Sp.En) : Obj := .cells #[.string e.1, .int .i64 e.2.1, .int .i64 e.2.2.1, .int .i64 e.2.2.2] 91
theorem ent_of {w : World} {A : Nat} {e : Sp.En} (h : w.heap[A]? = some (BEn e)) : ent4 w A 0 e ∧ ∀ j, w.frozen? ⟨A, j, none⟩ = false := by
  refine ⟨⟨?_, ?_, ?_, ?_⟩, fun j => ?_⟩ <;> simp [World.cell?, World.frozen?, h]
theorem leaves_end {n : Nat} {tmps : Array Value} {R : Ending → World → Prop} {W : World} (h : ∀ v, R (.returned v) W) : LeavesInM Fence.wide n Tryz.prog Tryz.f151 tmps R [] .returning W := ⟨_, results_none rfl _ _ _, h _⟩
set_option maxRecDepth 100000 in
set_option maxHeartbeats 4000000 in
theorem iter_in (L : List Rw) (ao : Option Addr) (cap n₀ Bx : Nat) : ∀ (f no : Nat) (path : ByteArray) (w : World) (bn bp bl : Nat), Sp.deep (pl L) f no → path.size + 33 * f ≤ 1000 → L.length ≤ 1000 → n₀ ≤ w.heap.size → TabAt (fun b => b < n₀) w (.slice ao L.length cap) L → HasBox Bx w → (∀ b, b < n₀ → ¬ Mine Bx w b) →
    (w.cell? ⟨bn, 0, none⟩ = some (.int .i64 no) ∧ w.cell? ⟨bp, 0, none⟩ = some (.string path) ∧ w.cell? ⟨bl, 0, none⟩ = some (.slice ao L.length cap)) → (¬ Mine Bx w bn ∧ ¬ Mine Bx w bp ∧ ¬ Mine Bx w bl) →
    SeqOwn Tryz.prog 151 #[PT bn, PT bp, PT bl] encF Bx (Sp.walk (pl L) f no path) w
  | 0, _, _, _, _, _, _, h, _, _, _, _, _, _, _, _ => h.elim
  | f + 1, no, path, w, bn, bp, bl, hdeep, hpath, hLn, hn0, htab, hbox, hsafe, ⟨cn, cp, cl⟩, ⟨sn, sp, sl⟩ => by
    have IH : Hid (∀ (no : Nat) (path : ByteArray) (w : World) (bn bp bl : Nat), Sp.deep (pl L) f no → path.size + 33 * f ≤ 1000 → L.length ≤ 1000 → n₀ ≤ w.heap.size → TabAt (fun b => b < n₀) w (.slice ao L.length cap) L → HasBox Bx w → (∀ b, b < n₀ → ¬ Mine Bx w b) →
      (w.cell? ⟨bn, 0, none⟩ = some (.int .i64 no) ∧ w.cell? ⟨bp, 0, none⟩ = some (.string path) ∧ w.cell? ⟨bl, 0, none⟩ = some (.slice ao L.length cap)) → (¬ Mine Bx w bn ∧ ¬ Mine Bx w bp ∧ ¬ Mine Bx w bl) →
      SeqOwn Tryz.prog 151 #[PT bn, PT bp, PT bl] encF Bx (Sp.walk (pl L) f no path) w) := iter_in L ao cap n₀ Bx f
    intro n l J Jx W hgW hl hJ hJx hY h0
    have hbW : HasBox Bx W := hbox.up (hgW.block _ hbox.lt (by simp)) hgW.size
    obtain ⟨Y, hYd⟩ : ∃ Y, W.heap.size = Y := ⟨_, rfl⟩
    obtain ⟨W1, hW1⟩ : ∃ W1, W1 = W.alloc (.cells #[.func (.yield l) #[] #[]] 185) := ⟨_, rfl⟩
    have hgW1 : w.grownBy W1 none := by rw [hW1]; exact grown_trans hgW (World.grownBy_alloc _ _ none)
    have hk1 : Kp Bx w W1 := Kp.still hbox hgW1
    have hJ1 : J [] W1 := by rw [hW1]; exact hJ.alloc _ h0
    have cy : W1.cell? ⟨Y, 0, none⟩ = some (.func (.yield l) #[] #[]) := by
      have := heap_alloc_new W (.cells #[.func (.yield l) #[] #[]] 185)
      rw [hW1, ← hYd]
      simp only [World.cell?, this]
      rfl
    have sy : ¬ Mine Bx W1 Y := by rw [hW1, ← hYd]; exact hbW.new (World.grownBy_alloc W _ none) (Nat.le_refl _)
    have hl1 := World.block_lt_of_cell? _ _ cn
    have hl2 := World.block_lt_of_cell? _ _ cp
    have hl3 := World.block_lt_of_cell? _ _ cl
    have dn := (hk1.cell (o := 0) sn hl1).trans cn
    have dp := (hk1.cell (o := 0) sp hl2).trans cp
    have dl := (hk1.cell (o := 0) sl hl3).trans cl
    obtain ⟨fn, tmps, assign, body, hy, hR⟩ := hY (n - 1) [] (no, path) W1 (by rw [Sp.walk_succ]; exact ⟨(Sp.entsAt (pl L) no).flatMap (Sp.step (pl L) f path), rfl⟩) hJ1
    simp only [encF] at hy
    have HDEEP : Hid (Sp.deep (pl L) (f + 1) no) := hdeep
    have HYY : Hid (Yields Tryz.prog l encF Bx (Sp.walk (pl L) (f + 1) no path) J Jx) := hY
    have HJ : Hid (OwnFrom W.heap.size J ∧ OwnFrom W.heap.size Jx) := ⟨hJ, hJx⟩
    have HTAB : Hid (TabAt (fun b => b < n₀) w (.slice ao L.length cap) L) := htab
    have HSAFE : Hid ((∀ b, b < n₀ → ¬ Mine Bx w b) ∧ (¬ Mine Bx w bn ∧ ¬ Mine Bx w bp ∧ ¬ Mine Bx w bl) ∧ ¬ Mine Bx W1 Y ∧ HasBox Bx w) := ⟨hsafe, ⟨sn, sp, sl⟩, sy, hbox⟩
    have HK1 : Hid (Kp Bx w W1) := hk1
    have HCW : Hid (w.cell? ⟨bn, 0, none⟩ = some (.int .i64 no) ∧ w.cell? ⟨bp, 0, none⟩ = some (.string path) ∧ w.cell? ⟨bl, 0, none⟩ = some (.slice ao L.length cap)) := ⟨cn, cp, cl⟩
    have HCY : Hid (W1.cell? ⟨Y, 0, none⟩ = some (.func (.yield l) #[] #[]) ∧ Y < W1.heap.size) := ⟨cy, World.block_lt_of_cell? _ _ cy⟩
    have HLW : Hid (l < W.heap.size ∧ W.heap.size = Y) := ⟨hl, hYd⟩
    have HN0 : Hid (n₀ ≤ w.heap.size) := hn0
    clear hn0
    clear hdeep hY hJ hJx htab hsafe sn sp sl sy hbox hk1 hgW hgW1 h0 hJ1 cn cp cl hl hl1 hl2 hl3 hbW
    refine callsIn_of_wp_marks Tryz.func151 rfl trivial ?_
    simp only [Tryz.ntmps151, List.size_toArray, List.length_cons, List.length_nil, Nat.reduceAdd, Nat.reduceSub, Array.replicate_succ, Array.replicate_zero, List.push_toArray, List.append_toArray, List.nil_append, List.cons_append]
    subst hW1
    gi_wp2
    refine ⟨fun h => (by cases h), hR.mono ?_⟩
    clear hR hy
    rintro e W2 (⟨rfl, hJ2, hk2⟩ | ⟨rfl, hJx2, hkf2⟩)
    · have HK2 : Hid (Kp Bx w W2) := HK1.out.trans hk2
      have HYB : Hid (W2.cell? ⟨Y, 0, none⟩ = some (.func (.yield l) #[] #[]) ∧ ¬ Mine Bx W2 Y ∧ Y < W2.heap.size) := ⟨(hk2.cell HSAFE.out.2.2.1 HCY.out.2).trans HCY.out.1, hk2.safe HSAFE.out.2.2.1 HCY.out.2, Nat.lt_of_lt_of_le HCY.out.2 hk2.size⟩
      have HJ2 : Hid (J [(no, path)] W2) := hJ2
      have hno := HDEEP.out.1
      rw [List.length_map] at hno
      obtain ⟨x, hx⟩ : ∃ x, L[no]? = some x := ⟨_, List.getElem?_eq_getElem hno⟩
      obtain ⟨ao', cap', hv', -, hcells⟩ := HTAB.out.1.open
      simp only [Value.slice.injEq] at hv'
      obtain ⟨rfl, -, rfl⟩ := hv'
      obtain ⟨b, off, rfl, hbn, hbl, -⟩ := hcells no x hx
      have H8 : Hid (∀ i y, L[i]? = some y → eight w b (off + i * 8) y) := fun i y hy => by
        obtain ⟨b', off', he, _, _, hc⟩ := hcells i y hy
        simp only [Option.some.injEq, Addr.mk.injEq, and_true] at he
        obtain ⟨rfl, rfl⟩ := he
        exact ⟨hc 0 _ rfl, hc 1 _ rfl, hc 2 _ rfl, hc 3 _ rfl, hc 4 _ rfl, hc 5 _ rfl, hc 6 _ rfl, hc 7 _ rfl⟩
      have HSB : Hid (¬ Mine Bx w b ∧ b < w.heap.size) := ⟨HSAFE.out.1 b hbn, hbl⟩
      have hgood := HTAB.out.2 x (List.mem_of_getElem? hx)
      have HLEN : Hid (x.en = x.i.ents.length) := hgood.len.2
      obtain ⟨eo, ecap, hev, hem, hents⟩ := hgood.2.1.open
      simp only [Value.slice.injEq] at hev
      obtain ⟨rfl, -, rfl⟩ := hev
      have HEN : Hid (∀ j e, x.i.ents[j]? = some e → ∃ b2 off2, x.ep = some ⟨b2, off2, none⟩ ∧ ¬ Mine Bx w b2 ∧ b2 < w.heap.size ∧ ent4 w b2 (off2 + j * 4) e) := fun j e he => by
        obtain ⟨b2, off2, h1, h2, h3, hc⟩ := hents j e he
        exact ⟨b2, off2, h1, HSAFE.out.1 b2 h2, h3, hc 0 _ rfl, hc 1 _ rfl, hc 2 _ rfl, hc 3 _ rfl⟩
      have HEA : Hid (Sp.entsAt (pl L) no = x.i.ents) := (ents_at hx).1
      obtain ⟨m, hm⟩ : ∃ m, x.en = m := ⟨_, rfl⟩
      have hmm : m ≤ 9223372036854775807 := by rw [← hm, HLEN.out]; unfold maxLen at hem; omega
      have HM : Hid (x.i.ents.length = m) := HLEN.out.symm.trans hm
      obtain ⟨q0, q1, q2, q3, q4, q5, q6, q7⟩ := (H8.out no x hx).kp HK2.out HSB.out.1 HSB.out.2
      rw [hm] at q6
      have dn := (HK2.out.cell (o := 0) HSAFE.out.2.1.1 (World.block_lt_of_cell? _ _ HCW.out.1)).trans HCW.out.1
      have dp := (HK2.out.cell (o := 0) HSAFE.out.2.1.2.1 (World.block_lt_of_cell? _ _ HCW.out.2.1)).trans HCW.out.2.1
      have dl := (HK2.out.cell (o := 0) HSAFE.out.2.1.2.2 (World.block_lt_of_cell? _ _ HCW.out.2.2)).trans HCW.out.2.2
      have hno' : (no : Int) < (L.length : Int) := by omega
      obtain ⟨ep, hep⟩ : ∃ ep, x.ep = ep := ⟨_, rfl⟩
      obtain ⟨ec, hec⟩ : ∃ ec, x.ec = ec := ⟨_, rfl⟩
      rw [hep] at q6
      rw [hec] at q6
      have HEP : Hid (x.ep = ep) := hep
      obtain ⟨LN, hLN⟩ : ∃ LN, L.length = LN := ⟨_, rfl⟩
      have HLN : Hid (L.length = LN) := hLN
      rw [hLN] at dl hno' hLn
      clear hcells hents hgood hx hk2 hJ2 hm q0 q1 q2 q3 q4 q5 q7 cy hep hec hno hLN hYd HLEN hem
      gi_wp2
      refine wpIn_loop (fun a' V => ∃ (u6 u21 u22 u23 u24 u25 u26 u27 u28 u29 u30 u31 u32 u33 u34 u35 u36 u37 u38 u39 u40 u41 u49 : Value) (j : Nat) (ds : List Nat), (j ≤ m ∧ Hid (J (Sp.upto (pl L) f no path j) V) ∧ Hid (Kp Bx W2 V) ∧ Hid (Open W.heap.size ds V)) ∧ a' = { tmps := #[.func (.yield l) #[] #[], PT bn, PT bp, PT bl, PT Y, undef, u6, undef, undef, .func (.yield l) #[] #[], .int .i64 (no : Int), .string path, .bool true, .bool false, .slice (some ⟨b, off, none⟩) LN cap, .int .i64 (no : Int), .pointer (some ⟨b, off + no * 8, none⟩), .pointer (some ⟨b, off + no * 8 + 6, none⟩), .slice ep m ec, .int .i64 (m : Int), .int .i64 (j : Int), u21, u22, u23, u24, u25, u26, u27, u28, u29, u30, u31, u32, u33, u34, u35, u36, u37, u38, u39, u40, u41, undef, undef, undef, undef, undef, undef, undef, u49], defers := marks ds }) (fun a' _ => m - (intOf (a'.tmps.getD 20 undef)).toNat) ⟨_, _, _, _, _, _, _, _, _, _, _, _, _, _, _, _, _, _, _, _, _, _, _, 0, [], ⟨Nat.zero_le _, by rw [Sp.upto_zero]; exact HJ2.out, Kp.refl _ _, List.nodup_nil, fun D hD => (by cases hD)⟩, rfl⟩ ?_
      clear q6 dn dp dl
      rintro _ V ⟨u6, u21, u22, u23, u24, u25, u26, u27, u28, u29, u30, u31, u32, u33, u34, u35, u36, u37, u38, u39, u40, u41, u49, j, ds, ⟨hj, HJV, HKV, HOP⟩, rfl⟩
      have HKw : Hid (Kp Bx w V) := HK2.out.trans HKV.out
      have dl := (HKw.out.cell (o := 0) HSAFE.out.2.1.2.2 (World.block_lt_of_cell? _ _ HCW.out.2.2)).trans HCW.out.2.2
      have dp := (HKw.out.cell (o := 0) HSAFE.out.2.1.2.1 (World.block_lt_of_cell? _ _ HCW.out.2.1)).trans HCW.out.2.1
      rw [HLN.out] at dl
      by_cases hlt : j < m
      · obtain ⟨e, he⟩ : ∃ e, x.i.ents[j]? = some e := ⟨_, List.getElem?_eq_getElem (by rw [HM.out]; exact hlt)⟩
        have HEJ : Hid ((Sp.entsAt (pl L) no)[j]? = some e) := by rw [HEA.out]; exact he
        obtain ⟨b2, off2, hep, hs2, hl2, h4⟩ := HEN.out j e he
        obtain rfl : ep = some ⟨b2, off2, none⟩ := HEP.out.symm.trans hep
        obtain ⟨⟨he0, he1, hes⟩, hdd⟩ := HDEEP.out.2 e (List.mem_of_getElem? HEJ.out)
        obtain ⟨s, ck, e3, g⟩ := e
        simp only at he0 he1 hes hdd h4
        obtain ⟨k, rfl⟩ : ∃ k : Nat, e3 = (k : Int) := ⟨e3.toNat, by omega⟩
        rw [List.length_map] at he1
        have hkL : k < L.length := by omega
        obtain ⟨y, hyk⟩ : ∃ y, L[k]? = some y := ⟨_, List.getElem?_eq_getElem hkL⟩
        have h8 := (H8.out k y hyk).kp HKw.out HSB.out.1 HSB.out.2
        have HDIR : Hid (Sp.dirAt (pl L) k = (y.i.kind == 2)) := (ents_at hyk).2
        have HDD : Hid (Sp.dirAt (pl L) k = true → Sp.deep (pl L) f k) := hdd
        have c4 : ent4 V b2 (off2 + j * 4) (s, ck, (k : Int), g) := ⟨(HKw.out.cell hs2 hl2).trans h4.1, (HKw.out.cell hs2 hl2).trans h4.2.1, (HKw.out.cell hs2 hl2).trans h4.2.2.1, (HKw.out.cell hs2 hl2).trans h4.2.2.2⟩
        obtain ⟨c0, c1, c2, c3⟩ := c4
        have hbV := HKw.out.box HSAFE.out.2.2.2
        have hkLN : (k : Int) < (LN : Int) := by rw [← HLN.out]; omega
        have hlt' : (j : Int) < (m : Int) := by omega
        have hlb : bl < V.heap.size := World.block_lt_of_cell? _ _ dl
        have hlp : bp < V.heap.size := World.block_lt_of_cell? _ _ dp
        have hlbb : b < V.heap.size := Nat.lt_of_lt_of_le HSB.out.2 HKw.out.size
        obtain ⟨V1, hV1⟩ : ∃ V1, V1 = V.alloc (BEn (s, ck, (k : Int), g)) := ⟨_, rfl⟩
        have hgV : V.grownBy V1 none := by rw [hV1]; exact World.grownBy_alloc _ _ none
        have HKV1 : Hid (Kp Bx V V1) := Kp.still hbV hgV
        have dl1 : (V.alloc (BEn (s, ck, (k : Int), g))).cell? ⟨bl, 0, none⟩ = _ := (cell_older hlb _ 0).trans dl
        have dp1 : (V.alloc (BEn (s, ck, (k : Int), g))).cell? ⟨bp, 0, none⟩ = _ := (cell_older hlp _ 0).trans dp
        obtain ⟨r0, r1, r2, r3, r4, r5, r6, r7⟩ : eight (V.alloc (BEn (s, ck, (k : Int), g))) b (off + k * 8) y := h8.below ((Below.refl V.heap.size V).alloc (Nat.le_refl _) _) hlbb
        clear h8 h4 he hep
        obtain ⟨V2, hV2⟩ : ∃ V2, V2 = (V.alloc (BEn (s, ck, (k : Int), g))).alloc (BIx y) := ⟨_, rfl⟩
        have hg2 : V.grownBy V2 none := by rw [hV2]; exact grown_trans (World.grownBy_alloc _ _ none) (World.grownBy_alloc _ _ none)
        have HKV2 : Hid (Kp Bx V V2) := Kp.still hbV hg2
        have HJ2' : Hid (J (Sp.upto (pl L) f no path j) V2) := HJ.out.1 _ _ _ none HJV.out hg2 (fun r e => (by cases e))
        have HOP2 : Hid (Open W.heap.size ds V2) := ⟨HOP.out.1, fun D hD => ⟨(HOP.out.2 D hD).1, HKV2.out.others _ _ (HOP.out.2 D hD).2 rfl⟩⟩
        have HES : Hid ((pl L).length = LN ∧ k < L.length) := ⟨by rw [List.length_map]; exact HLN.out, hkL⟩
        have HSZ : Hid (s.size ≤ 32) := hes
        clear hgV HKV1 hV1 hdd hyk hes he0 he1 hkL
        by_cases hkind : y.i.kind = 2
        · have hkb : (y.i.kind == 2) = true := by simp [hkind]
          have HDK : Hid (Sp.dirAt (pl L) k = true) := HDIR.out.trans hkb
          have hcat : ¬ 9223372036854775807 < path.size + 1 + s.size := by have := HSZ.out; omega
          clear hkind
          have el : V2.cell? ⟨bl, 0, none⟩ = some (.slice (some ⟨b, off, none⟩) LN cap) := by rw [hV2]; exact (cell_older (by simp; omega) _ 0).trans dl1
          have ep : V2.cell? ⟨bp, 0, none⟩ = some (.string path) := by rw [hV2]; exact (cell_older (by simp; omega) _ 0).trans dp1
          obtain ⟨⟨g0, g1, g2, g3⟩, -⟩ := ent_of (heap_alloc_new V (BEn (s, ck, (k : Int), g)))
          have g0' : V2.cell? ⟨V.heap.size, 0, none⟩ = some (.string s) := by rw [hV2]; exact (cell_older (by simp) _ 0).trans g0
          have g2' : V2.cell? ⟨V.heap.size, 2, none⟩ = some (.int .i64 (k : Int)) := by rw [hV2]; exact (cell_older (by simp) _ 2).trans g2
          gi_wp2
          refine ⟨trivial, fun h => (by cases h), (callsIn_wide.2 (isDir_any y _)).mono ?_⟩
          rintro e' w' ⟨rfl, rfl⟩
          rw [← hV2, hkb]
          clear hV2 dl1 dp1 r0 r1 r2 r3 r4 r5 r6 r7 g0 g1 g2 g3
          gi_wp2
          have hway : Sp.way path s = path ++ (⟨#[47]⟩ : ByteArray) ++ s := rfl
          generalize path ++ (⟨#[47]⟩ : ByteArray) = q1 at hway ⊢
          generalize q1 ++ s = q at hway ⊢
          have HQ : Hid (Sp.way path s = q) := hway
          clear hway
          refine ⟨trivial, fun h => (by cases h), ?_⟩
          refine CallsIn.mono (callsIn_wide.2 (folders_any _ _ _ _ ⟨_, _, _, rfl⟩)) ?_
          rintro e' w' ⟨rfl, rfl⟩
          obtain ⟨V3, hV3⟩ : ∃ V3, V3 = ((V2.alloc (.cells #[.slice (some ⟨b, off, none⟩) LN cap] 23)).alloc (.cells #[.int .i64 (k : Int)] 3)).alloc (.cells #[.string q] 9) := ⟨_, rfl⟩
          have hg3 : V2.grownBy V3 none := by rw [hV3]; exact grown_trans (grown_trans (World.grownBy_alloc _ _ none) (World.grownBy_alloc _ _ none)) (World.grownBy_alloc _ _ none)
          have hs3 : V3.heap.size = V2.heap.size + 3 := by rw [hV3]; simp
          have hb2 : HasBox Bx V2 := HKV2.out.box hbV
          have HK3 : Hid (Kp Bx V2 V3) := Kp.still hb2 hg3
          have hb3 : HasBox Bx V3 := HK3.out.box hb2
          have HKw3 : Hid (Kp Bx w V3) := HKw.out.trans (HKV2.out.trans HK3.out)
          have HJ3 : Hid (J (Sp.upto (pl L) f no path j) V3) := HJ.out.1 _ _ _ none HJ2'.out hg3 (fun r e => (by cases e))
          have HOP3 : Hid (Open W.heap.size ds V3) := ⟨HOP2.out.1, fun D hD => ⟨(HOP2.out.2 D hD).1, HK3.out.others _ _ (HOP2.out.2 D hD).2 rfl⟩⟩
          have hWs : W.heap.size ≤ V3.heap.size := by
            have h1 := HYB.out.2.2
            have h2 := HLW.out.2
            have h3 := HKV.out.size
            have h4 := HKV2.out.size
            omega
          have hlV : l < V3.heap.size := by have := HLW.out.1; omega
          have t0 : V3.cell? ⟨V2.heap.size, 0, none⟩ = some (.slice (some ⟨b, off, none⟩) LN cap) := by
            rw [hV3]
            refine (cell_older (by simp; omega) _ 0).trans ((cell_older (by simp) _ 0).trans ?_)
            simp only [World.cell?, heap_alloc_new V2 (.cells #[.slice (some ⟨b, off, none⟩) LN cap] 23)]
            rfl
          have t1 : V3.cell? ⟨V2.heap.size + 1, 0, none⟩ = some (.int .i64 (k : Int)) := by
            rw [hV3]
            refine (cell_older (by simp) _ 0).trans ?_
            have := heap_alloc_new (V2.alloc (.cells #[.slice (some ⟨b, off, none⟩) LN cap] 23)) (.cells #[.int .i64 (k : Int)] 3)
            rw [show (V2.alloc (.cells #[.slice (some ⟨b, off, none⟩) LN cap] 23)).heap.size = V2.heap.size + 1 by simp] at this
            simp only [World.cell?, this]
            rfl
          have t2 : V3.cell? ⟨V2.heap.size + 1 + 1, 0, none⟩ = some (.string q) := by
            rw [hV3]
            have := heap_alloc_new ((V2.alloc (.cells #[.slice (some ⟨b, off, none⟩) LN cap] 23)).alloc (.cells #[.int .i64 (k : Int)] 3)) (.cells #[.string q] 9)
            rw [show ((V2.alloc (.cells #[.slice (some ⟨b, off, none⟩) LN cap] 23)).alloc (.cells #[.int .i64 (k : Int)] 3)).heap.size = V2.heap.size + 1 + 1 by simp] at this
            simp only [World.cell?, this]
            rfl
          have HSEQ : Hid (SeqOwn Tryz.prog 151 #[PT (V2.heap.size + 1), PT (V2.heap.size + 1 + 1), PT V2.heap.size] encF Bx (Sp.walk (pl L) f k (Sp.way path s)) V3) :=
            IH.out k (Sp.way path s) V3 _ _ _ (HDD.out HDK.out) (by rw [Sp.way_size]; have := HSZ.out; omega) (by rw [HLN.out]; exact hLn) (Nat.le_trans HN0.out HKw3.out.size) (tab_kp HTAB.out HKw3.out HSAFE.out.1) hb3 (fun b hb => HKw3.out.safe (HSAFE.out.1 b hb) (Nat.lt_of_lt_of_le hb HN0.out))
              ⟨t1, by rw [HQ.out]; exact t2, by rw [HLN.out]; exact t0⟩ ⟨hb2.new hg3 (by omega), hb2.new hg3 (by omega), hb2.new hg3 (Nat.le_refl _)⟩
          have HST : Hid (Sp.upto (pl L) f no path (j + 1) = Sp.upto (pl L) f no path j ++ Sp.walk (pl L) f k (Sp.way path s)) := by
            show Sp.upto (pl L) f no path (j + 1) = _
            rw [Sp.upto_succ HEJ.out, Sp.step_dir (by simpa using HDK.out)]
            rfl
          rw [← hV3]
          clear hV3 el ep g0' g2' t0 t1 t2 hcat
          gi_wp2
          refine range_law (gf := 151) (lb := #[PT (V2.heap.size + 1), PT (V2.heap.size + 1 + 1), PT V2.heap.size]) (encs := encF) (Bx := Bx) (xs := Sp.walk (pl L) f k (Sp.way path s)) rfl (enters_of Tryz.func151 (by kernel_rfl) rfl) hb3 HSEQ.out (fun _ => rfl)
            (fun pre V4 => J (Sp.upto (pl L) f no path j ++ pre) V4 ∧ Kp Bx V3 V4) (fun pre V4 => Jx (Sp.upto (pl L) f no path j ++ pre) V4 ∧ ∀ D ∈ ds, V4.heap[D]? = some (.deferred (some [])))
            (fun t A B row hs hg hr => ⟨HJ.out.1 _ A B row hs.1 hg (fun r e => ⟨Nat.le_trans hWs (hr r e).1, (hr r e).2⟩), kp_own (β := Unit) hb3 (Nat.le_refl _) () A B row hs.2 hg hr⟩)
            (fun t A B row hs hg hr => ⟨HJ.out.2 _ A B row hs.1 hg (fun r e => ⟨Nat.le_trans hWs (hr r e).1, (hr r e).2⟩), fun D hD => by
              have h1 := (Array.getElem?_eq_some_iff.1 (HOP3.out.2 D hD).2).1
              rw [hg.block D (Array.getElem?_eq_some_iff.1 (hs.2 D hD)).1 (fun e => by have := (hr D e.symm).1; omega)]
              exact hs.2 D hD⟩)
            ⟨by rw [List.append_nil]; exact HJ3.out, Kp.refl _ _⟩
            (fun z => { tmps := #[.func (.yield l) #[] #[], PT bn, PT bp, PT bl, PT Y, undef, PT V.heap.size, .int .i64 (z.1 : Int), .string z.2, .func (.yield l) #[] #[], .int .i64 (no : Int), .string path, .bool true, .bool false, .slice (some ⟨b, off, none⟩) LN cap, .int .i64 (no : Int), .pointer (some ⟨b, off + no * 8, none⟩), .pointer (some ⟨b, off + no * 8 + 6, none⟩), .slice (some ⟨b2, off2, none⟩) m ec, .int .i64 (m : Int), .int .i64 (j : Int), .bool true, .pointer (some ⟨b2, off2 + j * 4, none⟩), .agg #[.string s, .int .i64 ck, .int .i64 (k : Int), .int .i64 g], .slice (some ⟨b, off, none⟩) LN cap, .pointer (some ⟨V.heap.size, 2, none⟩), .pointer (some ⟨V.heap.size, 2, none⟩), .int .i64 (k : Int), .pointer (some ⟨b, off + k * 8, none⟩), VI y, .bool true, .bool false, .slice (some ⟨b, off, none⟩) LN cap, .pointer (some ⟨V.heap.size, 2, none⟩), .pointer (some ⟨V.heap.size, 2, none⟩), .int .i64 (k : Int), .string path, .string q1, PT V.heap.size, .string s, .string q, .func (.func 151) #[] #[PT (V2.heap.size + 1), PT (V2.heap.size + 1 + 1), PT V2.heap.size], .int .i64 (z.1 : Int), .string z.2, undef, undef, undef, undef, undef, u49], defers := [] }) ?assign ?body ?done ?stop
          case assign =>
            intro l' m' z V4 K hK
            unfold encF
            gi_wp2
            exact hK
          case body =>
            rintro l' m' pre z V4 hl' hpz ⟨hJ4, hK4⟩
            have hpw : Sp.upto (pl L) f no path j ++ pre ++ [z] <+: Sp.walk (pl L) (f + 1) no path := by
              refine List.IsPrefix.trans ?_ (Sp.upto_pre (pl L) f no path (j + 1))
              rw [HST.out, List.append_assoc]
              exact (List.prefix_append_right_inj _).2 hpz
            obtain ⟨fn4, tmps4, assign4, body4, hy4, hR4⟩ := HYY.out (m' - 1) (Sp.upto (pl L) f no path j ++ pre) z V4 hpw hJ4
            simp only [encF] at hy4
            have cy4 : V4.cell? ⟨Y, 0, none⟩ = some (.func (.yield l) #[] #[]) := by
              have h2 : Kp Bx W2 V4 := (HKV.out.trans HKV2.out).trans (HK3.out.trans hK4)
              exact (h2.cell HYB.out.2.1 HYB.out.2.2).trans HYB.out.1
            have HK4 : Hid (Kp Bx V3 V4) := hK4
            clear hJ4 hK4 hpw hpz
            gi_wp2
            refine ⟨fun h => (by cases h), RoundIn.inRound (hR4.mono ?_)⟩
            clear hR4 hy4
            rintro e V5 (⟨rfl, hJ5, hk5⟩ | ⟨rfl, hJx5, hkf5⟩)
            · gi_wp2
              exact ⟨hk5, by rw [← List.append_assoc]; exact hJ5, HK4.out.trans hk5⟩
            · have HMK : Hid (∀ D ∈ ds, V5.heap[D]? = some (.deferred (some []))) := fun D hD => hkf5.same D _ (by have := (HOP3.out.2 D hD).1; have := HLW.out.1; omega) (HK4.out.others _ _ (HOP3.out.2 D hD).2 rfl) rfl
              gi_wp2
              exact ⟨⟨hkf5.size, fun k o hk => hkf5.same k o (by omega)⟩, by rw [← List.append_assoc]; exact hJx5, HMK.out⟩
          case done =>
            rintro D V5 hD ⟨hJ5, hK5⟩ hdf
            have HOP5 : Hid (Open W.heap.size (D :: ds) V5) := HOP3.out.cons (fun E hE => hK5.others _ _ (HOP3.out.2 E hE).2 rfl) (Nat.le_trans hWs hD) hD hdf
            have HJ5 : Hid (J (Sp.upto (pl L) f no path (j + 1)) V5) := by rw [HST.out]; exact hJ5
            have HK5 : Hid (Kp Bx W2 V5) := (HKV.out.trans HKV2.out).trans (HK3.out.trans hK5)
            clear hJ5 hK5 hdf hD
            gi_wp2
            refine ⟨⟨_, _, _, _, _, _, _, _, _, _, _, _, _, _, _, _, _, _, _, _, _, _, _, j + 1, D :: ds, ⟨by omega, HJ5.out, HK5.out, HOP5.out⟩, by first | rfl | congr 1⟩, ?_⟩
            simp [intOf]
            omega
          case stop =>
            rintro D pre V5 hD hpre ⟨hJx5, hmk5⟩ hdf
            have HOP5 : Hid (Open W.heap.size (D :: ds) V5) := HOP3.out.cons hmk5 (Nat.le_trans hWs hD) hD hdf
            have HPR : Hid (Sp.upto (pl L) f no path j ++ pre <+: Sp.walk (pl L) (f + 1) no path) := by
              refine List.IsPrefix.trans ?_ (Sp.upto_pre (pl L) f no path (j + 1))
              rw [HST.out]
              exact (List.prefix_append_right_inj _).2 hpre
            gi_wp2
            exact leaves_marks (fun W' => Jx (Sp.upto (pl L) f no path j ++ pre) W') (fun t A B row hs hg hr => HJ.out.2 _ A B row hs hg hr) (fun W' h => leaves_end (fun v => ⟨⟨v, rfl⟩, .inr ⟨_, HPR.out, h⟩⟩)) (D :: ds) V5 HOP5.out hJx5
        · have hkb : (y.i.kind == 2) = false := beq_eq_false_iff_ne.2 hkind
          have HST : Hid (Sp.upto (pl L) f no path (j + 1) = Sp.upto (pl L) f no path j) := by
            show Sp.upto (pl L) f no path (j + 1) = Sp.upto (pl L) f no path j
            rw [Sp.upto_succ HEJ.out, Sp.step_file (HDIR.out.trans hkb), List.append_nil]
          clear hkind
          gi_wp2
          refine ⟨trivial, fun h => (by cases h), (callsIn_wide.2 (isDir_any y _)).mono ?_⟩
          rintro e' w' ⟨rfl, rfl⟩
          rw [← hV2, hkb]
          clear hV2 dl1 dp1 r0 r1 r2 r3 r4 r5 r6 r7
          gi_wp2
          refine ⟨⟨_, _, _, _, _, _, _, _, _, _, _, _, _, _, _, _, _, _, _, _, _, _, _, j + 1, ds, ⟨by omega, by rw [HST.out]; exact HJ2'.out, HKV.out.trans HKV2.out, HOP2.out⟩, by congr 1⟩, ?_⟩
          simp [intOf]
          omega
      · obtain rfl : j = m := by omega
        have HEND : Hid (J (Sp.walk (pl L) (f + 1) no path) V) := by
          have hu := Sp.upto_all (L := pl L) (f := f) (no := no) (path := path) (j := j) (by rw [HEA.out]; exact HM.out)
          rw [← hu]
          exact HJV.out
        gi_wp2
        exact leaves_marks (fun W' => J (Sp.walk (pl L) (f + 1) no path) W') (fun s A B row hs hg hr => HJ.out.1 _ A B row hs hg hr) (fun W' h => leaves_end (fun v => ⟨⟨v, rfl⟩, .inl h⟩)) ds V HOP.out HEND.out
    · gi_wp2
      exact leaves_end (fun v => ⟨⟨v, rfl⟩, .inr ⟨_, by rw [Sp.walk_succ]; exact ⟨(Sp.entsAt (pl L) no).flatMap (Sp.step (pl L) f path), rfl⟩, hJx2⟩⟩)
end Go.Proofs.YtggoccfddnpelaaGreat
