/-
  The texts Row, SBase, YPn, SPan, SSend, SNew, as one.
-/
import Derived.WalkKit
import Derived.ProofKit
import Derived.Deep.AppendSrc
import Derived.Deep.DeepAppendWide
import Derived.WalkSmall
import Derived.BigQuiet
import Derived.Deep.QuietTactic
import Derived.Deep.RegionHeld3
import Derived.Deep.SlicePairs
import Derived.Test.YtkdhbjmpjbdobaaGreatDoorRows
import Derived.WalkSpells
import Derived.WalkLawsBesides
import Derived.Test.YtkdhbjmpjbdobaaGreatDoorM1
/- Row -/
namespace Go.Proofs.YtkdhbjmpjbdobaaGreatDoor
open Go.RowKit
set_option maxRecDepth 100000

theorem grown_refl (w : World) (row : Option Nat) : w.grownBy w row := ⟨rfl, rfl, rfl, Nat.le_refl _, fun _ _ _ => rfl⟩
theorem grown_trans {a b c : World} {row : Option Nat} (h : a.grownBy b row) (k : b.grownBy c row) : a.grownBy c row :=
  ⟨k.os.trans h.os, k.tape.trans h.tape, k.output.trans h.output, Nat.le_trans h.size k.size, fun i hi hr => (k.block i (Nat.lt_of_lt_of_le hi h.size) hr).trans (h.block i hi hr)⟩
theorem grown_of_below {w w' : World} (h : Below w.heap.size w w') (row : Option Nat) : w.grownBy w' row := ⟨h.os, h.tape, h.output, h.size, fun k hk _ => h.block k hk⟩
theorem below_none {B : Nat} {w w' : World} (h : w.grownBy w' none) (hs : B ≤ w.heap.size) : Below B w w' := (Below.refl B w).grown h hs (fun k hk => by cases hk)
theorem grown_any {w W : World} (h : w.grownBy W none) (row : Option Nat) : w.grownBy W row := ⟨h.os, h.tape, h.output, h.size, fun k hk _ => h.block k hk (by simp)⟩
theorem grown_drew {w W : World} {row : Option Nat} (h : w.grownBy W row) (q : Nat) : w.grownBy (W.drewN q) row := ⟨h.os, h.tape, h.output, h.size, h.block⟩

/-- How a struct lies in cells. -/
structure Enc (α : Type) where
  sz : Nat
  cells : α → List Value
  len : ∀ x, (cells x).length = sz
  one : ∀ x, ∀ u ∈ cells x, u.oneCell' = true
variable {α : Type}
def Enc.flat (E : Enc α) (l : List α) : List Value := l.flatMap E.cells
theorem Enc.flat_length (E : Enc α) (l : List α) : (E.flat l).length = l.length * E.sz := by
  induction l with
  | nil => simp [Enc.flat]
  | cons x l ih =>
    have e : E.flat (x :: l) = E.cells x ++ E.flat l := by simp [Enc.flat]
    rw [e, List.length_append, ih, E.len, List.length_cons, Nat.succ_mul]
    omega
theorem Enc.flat_append (E : Enc α) (l m : List α) : E.flat (l ++ m) = E.flat l ++ E.flat m := by simp [Enc.flat]
theorem Enc.flat_one (E : Enc α) (l : List α) : ∀ u ∈ E.flat l, u.oneCell' = true := fun u hu => by
  obtain ⟨x, _, hx⟩ := List.mem_flatMap.1 hu
  exact E.one x u hx
theorem Enc.flat_at (E : Enc α) : ∀ (l : List α) (i : Nat) (x : α), l[i]? = some x → ∀ k u, (E.cells x)[k]? = some u → (E.flat l)[i * E.sz + k]? = some u
  | [], i, x, h, _, _, _ => by simp at h
  | y :: l, 0, x, h, k, u, hu => by
    simp at h
    subst h
    have e : E.flat (y :: l) = E.cells y ++ E.flat l := by simp [Enc.flat]
    rw [e, Nat.zero_mul, Nat.zero_add, List.getElem?_append_left (List.getElem?_eq_some_iff.1 hu).1]
    exact hu
  | y :: l, i + 1, x, h, k, u, hu => by
    have e : E.flat (y :: l) = E.cells y ++ E.flat l := by simp [Enc.flat]
    have := E.flat_at l i x (by simpa using h) k u hu
    rw [e, Nat.succ_mul, List.getElem?_append_right (by rw [E.len]; omega), E.len, show i * E.sz + E.sz + k - E.sz = i * E.sz + k from by omega]
    exact this
theorem Enc.flat_set (E : Enc α) : ∀ (l : List α) (i : Nat) (x : α), i < l.length → (E.flat l).take (i * E.sz) ++ E.cells x ++ (E.flat l).drop (i * E.sz + E.sz) = E.flat (l.set i x)
  | [], i, x, h => by simp at h
  | y :: l, 0, x, h => by
    have e : ∀ z, E.flat (z :: l) = E.cells z ++ E.flat l := fun z => by simp [Enc.flat]
    rw [List.set_cons_zero, e, e, Nat.zero_mul, List.take_zero, Nat.zero_add, List.nil_append]
    congr 1
    rw [List.drop_append_of_le_length (by rw [E.len]; omega), List.drop_of_length_le (by rw [E.len]; omega)]
    rfl
  | y :: l, i + 1, x, h => by
    have e : ∀ (z : α) m, E.flat (z :: m) = E.cells z ++ E.flat m := fun z m => by simp [Enc.flat]
    have ih := E.flat_set l i x (by simpa using h)
    have hl := E.len y
    rw [List.set_cons_succ, e, e, ← ih, Nat.succ_mul]
    have h1 : (E.cells y ++ E.flat l).take (i * E.sz + E.sz) = E.cells y ++ (E.flat l).take (i * E.sz) := by
      rw [List.take_append, List.take_of_length_le (by omega), hl, show i * E.sz + E.sz - E.sz = i * E.sz from by omega]
    have h2 : (E.cells y ++ E.flat l).drop (i * E.sz + E.sz + E.sz) = (E.flat l).drop (i * E.sz + E.sz) := by
      rw [List.drop_append, List.drop_of_length_le (by omega), hl, show i * E.sz + E.sz + E.sz - E.sz = i * E.sz + E.sz from by omega, List.nil_append]
    rw [h1, h2, List.append_assoc, List.append_assoc, List.append_assoc]

/-- The value v stands for the list l; its cells lie in a block of which S says yes. -/
def At (E : Enc α) (S : Nat → Prop) (w : World) (v : Value) (l : List α) : Prop :=
  (∃ ao cap, v = .slice ao 0 cap ∧ l = []) ∨
  (∃ b off cap, v = .slice (some ⟨b, off, none⟩) l.length cap ∧ S b ∧ b < w.heap.size ∧ 0 < l.length ∧ l.length ≤ cap ∧ cap ≤ maxLen ∧
    ∀ j u, (E.flat l)[j]? = some u → w.cell? ⟨b, off + j, none⟩ = some u)
theorem cell_block {w w' : World} {p : Addr} (h : w'.heap[p.block]? = w.heap[p.block]?) : w'.cell? p = w.cell? p := by
  unfold World.cell?
  rw [h]
theorem At.keep {E : Enc α} {S T : Nat → Prop} {w w' : World} {v : Value} {l : List α} (h : At E S w v l) (hs : w.heap.size ≤ w'.heap.size) (hk : ∀ b, S b → b < w.heap.size → w'.heap[b]? = w.heap[b]? ∧ T b) : At E T w' v l := by
  rcases h with h | ⟨b, off, cap, rfl, hS, hb, hp, hc, hm, hx⟩
  · exact .inl h
  · have := hk b hS hb
    exact .inr ⟨b, off, cap, rfl, this.2, by omega, hp, hc, hm, fun j u hj => (cell_block this.1).trans (hx j u hj)⟩
theorem At.imp {E : Enc α} {S T : Nat → Prop} {w : World} {v : Value} {l : List α} (h : At E S w v l) (hk : ∀ b, S b → b < w.heap.size → T b) : At E T w v l := h.keep (Nat.le_refl _) fun b hb hl => ⟨rfl, hk b hb hl⟩
/-- Wherever it lies. -/
abbrev AtW (E : Enc α) (w : World) (v : Value) (l : List α) : Prop := At E (fun _ => True) w v l
theorem At.wide {E : Enc α} {S : Nat → Prop} {w : World} {v : Value} {l : List α} (h : At E S w v l) : AtW E w v l := h.imp fun _ _ _ => trivial
theorem At.up {E : Enc α} {S : Nat → Prop} {w w' : World} {v : Value} {l : List α} (h : At E S w v l) (hb : Below w.heap.size w w') : At E S w' v l := h.keep hb.size fun b hS hl => ⟨hb.block b hl, hS⟩
theorem At.grown {E : Enc α} {S : Nat → Prop} {w w' : World} {v : Value} {l : List α} {row : Option Nat} (h : At E S w v l) (hg : w.grownBy w' row) (hr : ∀ g, row = some g → ¬ S g) : At E S w' v l := h.keep hg.size fun b hS hl =>
  ⟨hg.block b hl (fun e => hr b e.symm hS), hS⟩
theorem At.open {E : Enc α} {S : Nat → Prop} {w : World} {v : Value} {l : List α} (h : At E S w v l) : ∃ ao cap, v = .slice ao l.length cap ∧ l.length ≤ maxLen ∧
    ∀ i x, l[i]? = some x → ∃ b off, ao = some ⟨b, off, none⟩ ∧ S b ∧ b < w.heap.size ∧ ∀ k u, (E.cells x)[k]? = some u → w.cell? ⟨b, off + (i * E.sz + k), none⟩ = some u := by
  rcases h with ⟨ao, cap, rfl, rfl⟩ | ⟨b, off, cap, rfl, hS, hb, _, hc, hm, hx⟩
  · exact ⟨ao, cap, rfl, by simp, fun j x hj => by simp at hj⟩
  · exact ⟨_, cap, rfl, by omega, fun i x hi => ⟨b, off, rfl, hS, hb, fun k u hu => hx _ _ (E.flat_at l i x hi k u hu)⟩⟩
theorem At.src {E : Enc α} {S : Nat → Prop} {P : Program} {w : World} {v : Value} {l : List α} {t e : TypeId} (hk : P.underlying t = some (.slice e)) (h : At E S w v l) : Src P E.sz t v l.length (E.flat l) w := by
  rcases h with ⟨ao, cap, rfl, rfl⟩ | ⟨b, off, cap, rfl, hS, hlt, _, hc, hm, hx⟩
  · cases ao with
    | none => exact Src.ofNil w hk cap
    | some a => exact Src.ofSlice w hk a 0 cap [] (by simp) (fun j u hj => by simp at hj) (fun u hu => by cases hu)
  · exact Src.ofSlice w hk _ _ cap _ (E.flat_length l) (fun j u hj => by rw [WideShapes.add_plain]; exact hx j u hj) (E.flat_one l)
theorem At.nil {E : Enc α} {S : Nat → Prop} {w : World} : At E S w (.slice none 0 0) [] := .inl ⟨_, _, rfl, rfl⟩

/-- A row in the program's own memory, from block B on; elements of type e. -/
def Row (E : Enc α) (w : World) (B : Nat) (e : TypeId) (v : Value) (ls : List α) : Prop :=
  (v = .slice none 0 0 ∧ ls = []) ∨
  ∃ g cap cur, v = .slice (some ⟨g, 0, none⟩) ls.length cap ∧ B ≤ g ∧ w.heap[g]? = some (.cells cur e (0, 0)) ∧ ls.length ≤ cap ∧ cap ≤ maxLen ∧ cap * E.sz ≤ cur.size ∧ cur.toList.take (ls.length * E.sz) = E.flat ls
theorem Row.nil (E : Enc α) (w : World) (B : Nat) (e : TypeId) : Row E w B e (.slice none 0 0) [] := .inl ⟨rfl, rfl⟩
theorem Row.slice {E : Enc α} {w : World} {B : Nat} {e : TypeId} {v : Value} {ls : List α} (h : Row E w B e v ls) : ∃ p c, v = .slice p ls.length c := by
  rcases h with ⟨rfl, rfl⟩ | ⟨g, cap, cur, rfl, _⟩
  · exact ⟨_, _, rfl⟩
  · exact ⟨_, _, rfl⟩
theorem Row.lt {E : Enc α} {w : World} {B : Nat} {e : TypeId} {v : Value} {ls : List α} (h : Row E w B e v ls) : ∀ k, v.ownBlock = some k → B ≤ k ∧ k < w.heap.size := by
  rcases h with ⟨rfl, rfl⟩ | ⟨g, cap, cur, rfl, hB, hg, _⟩
  · intro k hk; simp [Value.ownBlock] at hk
  · intro k hk
    simp [Value.ownBlock] at hk
    subst hk
    exact ⟨hB, (Array.getElem?_eq_some_iff.1 hg).1⟩
theorem Row.kept {E : Enc α} {w w' : World} {B : Nat} {e : TypeId} {v : Value} {ls : List α} {row : Option Nat} (h : Row E w B e v ls) (hg : w.grownBy w' row) (hne : v.ownBlock = none ∨ v.ownBlock ≠ row) : Row E w' B e v ls := by
  rcases h with h | ⟨g, cap, cur, rfl, hB, hh, h1, h2, h3, h4⟩
  · exact .inl h
  · refine .inr ⟨g, cap, cur, rfl, hB, ?_, h1, h2, h3, h4⟩
    rw [hg.block g (Array.getElem?_eq_some_iff.1 hh).1 ?_, hh]
    rcases hne with hne | hne
    · simp [Value.ownBlock] at hne
    · simpa [Value.ownBlock] using hne
theorem Row.still {E : Enc α} {w w' : World} {B : Nat} {e : TypeId} {v : Value} {ls : List α} (h : Row E w B e v ls) (hg : w.grownBy w' none) : Row E w' B e v ls := h.kept hg (by cases hv : v.ownBlock <;> simp)
theorem Row.up {E : Enc α} {w w' : World} {B : Nat} {e : TypeId} {v : Value} {ls : List α} (h : Row E w B e v ls) (hb : Below w.heap.size w w') : Row E w' B e v ls := h.still (grown_of_below hb none)
theorem Row.drew {E : Enc α} {w : World} {B : Nat} {e : TypeId} {v : Value} {ls : List α} (h : Row E w B e v ls) (q : Nat) : Row E (w.drewN q) B e v ls := h
theorem Row.at {E : Enc α} {w : World} {B : Nat} {e : TypeId} {v : Value} {ls : List α} (h : Row E w B e v ls) : At E (fun b => B ≤ b) w v ls := by
  rcases h with ⟨rfl, rfl⟩ | ⟨g, cap, cur, rfl, hB, hh, h1, h2, h3, h4⟩
  · exact .inl ⟨_, _, rfl, rfl⟩
  · by_cases hp : 0 < ls.length
    · refine .inr ⟨g, 0, cap, rfl, hB, (Array.getElem?_eq_some_iff.1 hh).1, hp, h1, h2, fun j u hj => ?_⟩
      have hlt : j < (E.flat ls).length := (List.getElem?_eq_some_iff.1 hj).1
      rw [E.flat_length] at hlt
      rw [← h4, List.getElem?_take_of_lt hlt, Array.getElem?_toList] at hj
      simp only [World.cell?, hh, Option.isSome_none, Bool.false_eq_true, if_false, Nat.zero_add]
      exact hj
    · have : ls = [] := List.eq_nil_of_length_eq_zero (by omega)
      subst this
      exact .inl ⟨_, _, rfl, rfl⟩
section
variable {P : Program} (w : World)
theorem Row.append_run (E : Enc α) (S : Nat → Prop) (B : Nat) (t ty e : TypeId) (i : TypeInfo) (z : Value) (bytes : Nat) (ht : P.underlying t = some (.slice e)) (hi : P.info? e = some i) (hz : i.zero = some z) (hsize : i.size = E.sz) (hby : i.bytes = bytes) (hzs : z.cells.size = E.sz)
    (v : Value) (ls : List α) (hrow : Row E w B e v ls) (x : Value) (xs : List α) (hx : At E S w x xs) (h63 : ls.length + xs.length ≤ maxLen) (hbytes : (ls.length + xs.length + (ls.length + xs.length) / 4 + 192) * bytes ≤ 281474976710656) (hbase : B ≤ w.heap.size) :
    ∃ v' w', (Builtin.append_ #[t, t] ty #[v, x]).run P w = .ok v' w' ∧ Row E w' B e v' (ls ++ xs) ∧ w.grownBy w' v.ownBlock ∧ (v'.ownBlock = v.ownBlock ∨ ∀ j, v'.ownBlock = some j → w.heap.size ≤ j) := by
  have hs : Src P i.size t x xs.length (E.flat xs) w := by rw [hsize]; exact hx.src ht
  have hl := E.flat_length xs
  have hll := E.flat_length ls
  have hlen : (E.flat (ls ++ xs)).length = (ls.length + xs.length) * E.sz := by rw [E.flat_length]; simp
  have hsmall : ls.length + xs.length ≤ 9223372036854775807 := by simp only [maxLen] at h63; omega
  have hmul : (ls.length + xs.length) * E.sz = ls.length * E.sz + xs.length * E.sz := Nat.add_mul _ _ _
  subst hby
  have grown : ∀ (old : Nat), old < ls.length + xs.length → ∀ (row : Option Nat),
      Row E (w.drew.alloc (.cells ((E.flat ls ++ E.flat xs).toArray ++ Builtin.zeroCells z.cells (grownCap w (ls.length + xs.length) old e - (ls.length + xs.length))) e)) B e
        (.slice (some ⟨w.heap.size, 0, none⟩) (ls.length + xs.length) (grownCap w (ls.length + xs.length) old e)) (ls ++ xs) ∧
      w.grownBy (w.drew.alloc (.cells ((E.flat ls ++ E.flat xs).toArray ++ Builtin.zeroCells z.cells (grownCap w (ls.length + xs.length) old e - (ls.length + xs.length))) e)) row := by
    intro old ho row
    have hge := grownCap_ge w (ls.length + xs.length) old e
    have hcm : grownCap w (ls.length + xs.length) old e ≤ maxLen := grownCap_le_maxLen w (ls.length + xs.length) old e h63
    refine ⟨.inr ⟨w.heap.size, _, _, by simp, hbase, heap_alloc_new w.drew _, by simpa using hge, hcm, ?_, ?_⟩, ⟨rfl, rfl, rfl, by simp, fun k hk _ => Below.heap_alloc w.drew _ k hk⟩⟩
    · simp only [Array.size_append, List.size_toArray, List.length_append, size_zeroCells, hzs, hl, hll]
      generalize grownCap w (ls.length + xs.length) old e = G at hge ⊢
      rw [← Nat.add_mul, ← Nat.add_mul]
      exact Nat.mul_le_mul_right _ (by omega)
    · simp only [Array.toList_append]
      rw [E.flat_append, show (ls ++ xs).length * E.sz = (E.flat ls ++ E.flat xs).length from by simp only [List.length_append, hl, hll]; exact hmul]
      exact List.take_left
  rcases hrow with ⟨rfl, rfl⟩ | ⟨g, cap, cur, rfl, hB, hg, h1, h2, h3, h4⟩
  · by_cases hm : xs.length = 0
    · have hxs : xs = [] := List.eq_nil_of_length_eq_zero hm
      subst hxs
      refine ⟨.slice none 0 0, w, ?_, Row.nil E w B e, grown_refl _ _, .inl rfl⟩
      rcases hs.kind with ⟨e', hk⟩ | hk
      · have hsl := hs.len
        have hsc := hs.cells
        simp only [List.length_nil] at hsl hsc
        simp [Builtin.append_, run_underlying ht, sizeOf, typeInfo, hi, hsl, hsc, Enc.flat]
      · rw [ht] at hk; cases hk
    · have hr := run_append_grow_src (P := P) w t t ty e i z ht hi hz none 0 0 [] (run_firstCells_none w.drew _ _ _ _) x xs.length (E.flat xs) hs (by omega) (by omega) (growslice_fits_wide (by omega) (by simpa using hbytes))
      have hgr := grown 0 (by simp; omega) (Value.ownBlock (.slice none 0 0))
      simp only [List.length_nil, Nat.zero_add, Enc.flat, List.flatMap_nil, List.nil_append] at hgr hr ⊢
      exact ⟨_, _, hr, hgr.1, hgr.2, .inr (fun j hj => by simp [Value.ownBlock] at hj; omega)⟩
  · by_cases hroom : ls.length + xs.length ≤ cap
    · have hmc : (ls.length + xs.length) * E.sz ≤ cap * E.sz := Nat.mul_le_mul_right _ hroom
      have hfit : 0 + ls.length * i.size + (E.flat xs).length ≤ cur.size := by rw [hl, hsize]; omega
      have hst := run_storeCells_at P g (0 + ls.length * i.size) e (E.flat xs) 0 cur w hg (by simpa using hfit) hs.one
      simp only [Nat.add_zero] at hst
      have hr : (Builtin.append_ #[t, t] ty #[.slice (some ⟨g, 0, none⟩) ls.length cap, x]).run P w = .ok (.slice (some ⟨g, 0, none⟩) (ls.length + xs.length) cap) (w.setRow g (cur.toList.take (0 + ls.length * i.size) ++ E.flat xs ++ cur.toList.drop (0 + ls.length * i.size + (E.flat xs).length)).toArray) := by
        simp only [Nat.zero_add] at hst ⊢
        simp [Builtin.append_, run_underlying ht, sizeOf, typeInfo, hi, hs.len, hroom, hs.cells, Addr.add_lit, hst]
      refine ⟨_, _, hr, .inr ⟨g, cap, _, by simp, hB, setRow_heap w g cur _ e _ hg, by simpa using hroom, h2, ?_, ?_⟩, ⟨rfl, rfl, rfl, by simp, fun k _ hk => setRow_other w g k _ (fun e => hk (by simp [Value.ownBlock, e]))⟩, .inl rfl⟩
      · simp only [List.size_toArray, List.length_append, List.length_take, List.length_drop, Array.length_toList]
        omega
      · rw [hsize, List.append_assoc, Nat.zero_add, h4, E.flat_append, ← List.append_assoc, show (ls ++ xs).length * E.sz = (E.flat ls ++ E.flat xs).length from by simp only [List.length_append, hl, hll]; exact hmul]
        exact List.take_left
    · have hi2 := (show Row E w B e (.slice (some ⟨g, 0, none⟩) ls.length cap) ls from .inr ⟨g, cap, cur, rfl, hB, hg, h1, h2, h3, h4⟩).at
      have holds : ∀ j u, (E.flat ls)[j]? = some u → w.cell? ((⟨g, 0, none⟩ : Addr).add j) = some u := by
        rcases hi2 with ⟨ao, c, he, h0⟩ | ⟨b, o, c, he, _, _, _, _, _, hx'⟩
        · subst h0
          intro j u hj
          simp [Enc.flat] at hj
        · simp only [Value.slice.injEq, Option.some.injEq, Addr.mk.injEq, and_true, true_and] at he
          obtain ⟨⟨rfl, rfl⟩, rfl⟩ := he
          intro j u hj
          rw [WideShapes.add_plain]
          exact hx' j u hj
      have hr := run_append_grow_src (P := P) w t t ty e i z ht hi hz (some ⟨g, 0, none⟩) ls.length cap (E.flat ls) (run_firstCells_some w.drew _ _ _ _ _ (E.flat ls) (by rw [hsize]; exact hll) (by simpa using holds)) x xs.length (E.flat xs) hs (by omega) (by omega) (growslice_fits_wide (by omega) hbytes)
      have hgr := grown cap (by omega) (Value.ownBlock (.slice (some ⟨g, 0, none⟩) ls.length cap))
      exact ⟨_, _, hr, hgr.1, hgr.2, .inr (fun j hj => by simp [Value.ownBlock] at hj; omega)⟩

theorem wpList_row {ops : Array Oper} {rest : List Oper} {o : Oper} {a : Act} {Q : Exit → Act → World → Prop} (hgd : o.guard = none) (s x : Operand) (t : TypeId)
    (ho : o.op = .call { callee := .builtin .append, args := #[s, x], argTypes := #[t, t] }) (E : Enc α) (S : Nat → Prop)
    (B : Nat) (e : TypeId) (i : TypeInfo) (z : Value) (bytes : Nat) (ht : P.underlying t = some (.slice e)) (hi : P.info? e = some i) (hz : i.zero = some z) (hsize : i.size = E.sz) (hby : i.bytes = bytes) (hzs : z.cells.size = E.sz)
    (v : Value) (ls : List α) (hv : a.eval s = v) (hrow : Row E w B e v ls) (xv : Value) (xs : List α) (hxv : a.eval x = xv) (hx : At E S w xv xs) (h63 : ls.length + xs.length ≤ maxLen) (hbytes : (ls.length + xs.length + (ls.length + xs.length) / 4 + 192) * bytes ≤ 281474976710656) (hbase : B ≤ w.heap.size)
    (h : ∀ v' w', Row E w' B e v' (ls ++ xs) → w.grownBy w' v.ownBlock → (v'.ownBlock = v.ownBlock ∨ ∀ j, v'.ownBlock = some j → w.heap.size ≤ j) → wpList P ops Q rest (a.put o.dst v') w') : wpList P ops Q (o :: rest) a w :=
  wpList_plain hgd fun _ hK => by
    obtain ⟨v', w', hr, h2, h3, h4⟩ := Row.append_run (P := P) w E S B t o.type e i z bytes ht hi hz hsize hby hzs v ls hrow xv xs hx h63 hbytes hbase
    unfold Oper.wp execOp
    simp only [ho, resolve, invoke, builtin, Sem.run_bind, Sem.run_pure, Result.andThen_ok, List.map_toArray, List.map_cons, List.map_nil, hv, hxv, hr]
    exact hK _ _ (h v' w' h2 h3 h4)
end
end Go.Proofs.YtkdhbjmpjbdobaaGreatDoor
/- SBase -/
namespace Go.Proofs.YtkdhbjmpjbdobaaGreatDoor
open Go.ChangeShapes Go.WideShapes Go.ChangeAt Go.RowKit Go.Deep
set_option maxRecDepth 100000
namespace Sk
theorem bup {w w1 w2 : World} (h1 : Below w.heap.size w w1) (h2 : Below w1.heap.size w1 w2) : Below w.heap.size w w2 := h1.trans (h2.mono h1.size)
theorem below_alloc (w : World) (o : Obj) : Below w.heap.size w (w.alloc o) := (Below.refl _ _).alloc (Nat.le_refl _) _
structure Sb where
  id : Int
  n : Int
  v : Int
  t : Int
  g : Bool
  r : Int
  lt : ByteArray
  L : List ByteArray
/-- A call is under way. -/
def bz (s : Sb) : Bool := !(s.lt.toList == [])
theorem bz_no {s : Sb} (h : bz s = false) : s.lt = ⟨#[]⟩ := by
  unfold bz at h
  simp only [Bool.not_eq_false', beq_iff_eq] at h
  rw [ByteArray.toList_eq] at h
  have h2 : s.lt.data = #[] := by simpa using h
  cases e : s.lt
  rw [e] at h2
  simp only at h2
  rw [h2]
theorem bz_yes {s : Sb} (h : 4 ≤ s.lt.size) : bz s = true := by
  unfold bz
  simp only [Bool.not_eq_true', beq_eq_false_iff_ne, ne_eq]
  rw [ByteArray.toList_eq]
  intro e
  have : s.lt.data.toList.length = 0 := by rw [e]; rfl
  rw [Array.length_toList] at this
  have e2 : s.lt.size = s.lt.data.size := rfl
  omega
end Sk
open Sk

abbrev BS (s : Sb) (B : Nat) : Obj := .cells #[.int .i64 s.id, .int .i64 s.n, .int .i64 s.v, .int .i64 s.t, .bool s.g, .int .i64 s.r, .string s.lt, .pointer (some ⟨B, 0, none⟩)] 83
structure Su (w : World) (A B cu cn : Nat) (s : Sb) : Prop where
  box : w.heap[A]? = some (BS s B)
  inb : Xs.In w B cu cn 64 false [] s.L
/-- Nothing is turned but the four blocks. -/
structure Ot (A B cu cn : Nat) (w w' : World) : Prop where
  os : w'.os = w.os
  tape : w'.tape = w.tape
  output : w'.output = w.output
  size : w.heap.size ≤ w'.heap.size
  block : ∀ k, k < w.heap.size → k ≠ A → k ≠ B → k ≠ cu → k ≠ cn → w'.heap[k]? = w.heap[k]?
section
variable {w w' : World} {A B cu cn : Nat} {s : Sb}
theorem Su.ab (h : Su w A B cu cn s) : A ≠ B := fun e => by have := h.box; rw [e, h.inb.bx] at this; cases this
theorem Su.au (h : Su w A B cu cn s) : A ≠ cu := fun e => by obtain ⟨x, y, hx⟩ := h.inb.u; have := h.box; rw [e, hx] at this; cases this
theorem Su.an (h : Su w A B cu cn s) : A ≠ cn := fun e => by obtain ⟨x, y, hx⟩ := h.inb.n; have := h.box; rw [e, hx] at this; cases this
theorem some_lt {b : Nat} {o : Obj} (h : w.heap[b]? = some o) : b < w.heap.size := (Array.getElem?_eq_some_iff.1 h).1
theorem Su.lts (h : Su w A B cu cn s) : A < w.heap.size ∧ B < w.heap.size ∧ cu < w.heap.size ∧ cn < w.heap.size := by
  obtain ⟨_, _, h1⟩ := h.inb.u
  obtain ⟨_, _, h2⟩ := h.inb.n
  exact ⟨some_lt h.box, some_lt h.inb.bx, some_lt h1, some_lt h2⟩
theorem Su.up (h : Su w A B cu cn s) (hb : Below w.heap.size w w') : Su w' A B cu cn s := by
  obtain ⟨h1, h2, h3, h4⟩ := h.lts
  exact ⟨(hb.block A h1).trans h.box, h.inb.up (hb.block B h2) (hb.block cu h3) (hb.block cn h4)⟩
theorem Su.oth {L : List ByteArray} (h : Su w A B cu cn s) (hi : Xs.In w' B cu cn 64 false [] L) (ho : Xs.Oth B cu cn w w') : Su w' A B cu cn { s with L := L } :=
  ⟨(ho.block A h.lts.1 h.ab h.au h.an).trans h.box, hi⟩
theorem Su.cells (h : Su w A B cu cn s) : w.cell? ⟨A, 0, none⟩ = some (.int .i64 s.id) ∧ w.cell? ⟨A, 1, none⟩ = some (.int .i64 s.n) ∧ w.cell? ⟨A, 2, none⟩ = some (.int .i64 s.v) ∧ w.cell? ⟨A, 3, none⟩ = some (.int .i64 s.t) ∧ w.cell? ⟨A, 4, none⟩ = some (.bool s.g) ∧ w.cell? ⟨A, 5, none⟩ = some (.int .i64 s.r) ∧ w.cell? ⟨A, 6, none⟩ = some (.string s.lt) ∧ w.cell? ⟨A, 7, none⟩ = some (.pointer (some ⟨B, 0, none⟩)) := by
  refine ⟨?_, ?_, ?_, ?_, ?_, ?_, ?_, ?_⟩ <;> simp [World.cell?, h.box]
theorem Su.fr (h : Su w A B cu cn s) (i : Nat) : w.frozen? ⟨A, i, none⟩ = false := by simp [World.frozen?, h.box]
theorem set_box {i : Nat} {v : Value} (h : w.heap[A]? = some (BS s B)) : (w.setCell ⟨A, i, none⟩ v).heap[A]? = some (.cells (#[Value.int .i64 s.id, .int .i64 s.n, .int .i64 s.v, .int .i64 s.t, .bool s.g, .int .i64 s.r, .string s.lt, .pointer (some ⟨B, 0, none⟩)].setIfInBounds i v) 83) := by
  simp [World.setCell, Array.getElem?_modify, h]
theorem Su.set {i : Nat} {v : Value} {s' : Sb} (h : Su w A B cu cn s) (hL : s'.L = s.L) (hv : (#[Value.int .i64 s.id, .int .i64 s.n, .int .i64 s.v, .int .i64 s.t, .bool s.g, .int .i64 s.r, .string s.lt, .pointer (some ⟨B, 0, none⟩)] : Array Value).setIfInBounds i v = #[.int .i64 s'.id, .int .i64 s'.n, .int .i64 s'.v, .int .i64 s'.t, .bool s'.g, .int .i64 s'.r, .string s'.lt, .pointer (some ⟨B, 0, none⟩)]) : Su (w.setCell ⟨A, i, none⟩ v) A B cu cn s' := by
  refine ⟨?_, ?_⟩
  · rw [set_box h.box, hv]
  · rw [hL]
    exact h.inb.up (Below.heap_setCell _ _ _ _ (Ne.symm h.ab)) (Below.heap_setCell _ _ _ _ (Ne.symm h.au)) (Below.heap_setCell _ _ _ _ (Ne.symm h.an))
theorem Su.setV (h : Su w A B cu cn s) (x : Int) : Su (w.setCell ⟨A, 2, none⟩ (.int .i64 x)) A B cu cn { s with v := x } := h.set rfl rfl
theorem Su.setT (h : Su w A B cu cn s) (x : Int) : Su (w.setCell ⟨A, 3, none⟩ (.int .i64 x)) A B cu cn { s with t := x } := h.set rfl rfl
theorem Su.setG (h : Su w A B cu cn s) (x : Bool) : Su (w.setCell ⟨A, 4, none⟩ (.bool x)) A B cu cn { s with g := x } := h.set rfl rfl
theorem Su.setR (h : Su w A B cu cn s) (x : Int) : Su (w.setCell ⟨A, 5, none⟩ (.int .i64 x)) A B cu cn { s with r := x } := h.set rfl rfl
theorem Su.setL (h : Su w A B cu cn s) (x : ByteArray) : Su (w.setCell ⟨A, 6, none⟩ (.string x)) A B cu cn { s with lt := x } := h.set rfl rfl
theorem Ot.refl (A B cu cn : Nat) (w : World) : Ot A B cu cn w w := ⟨rfl, rfl, rfl, Nat.le_refl _, fun _ _ _ _ _ _ => rfl⟩
theorem Ot.trans {w1 w2 : World} (h : Ot A B cu cn w w1) (k : Ot A B cu cn w1 w2) : Ot A B cu cn w w2 :=
  ⟨k.os.trans h.os, k.tape.trans h.tape, k.output.trans h.output, Nat.le_trans h.size k.size, fun q hq a b c d => (k.block q (Nat.lt_of_lt_of_le hq h.size) a b c d).trans (h.block q hq a b c d)⟩
theorem Ot.of (h : Below w.heap.size w w') : Ot A B cu cn w w' := ⟨h.os, h.tape, h.output, h.size, fun q hq _ _ _ _ => h.block q hq⟩
theorem Ot.oth (h : Xs.Oth B cu cn w w') : Ot A B cu cn w w' := ⟨h.os, h.tape, h.output, h.size, fun q hq _ b c d => h.block q hq b c d⟩
theorem Ot.set (i : Nat) (v : Value) : Ot A B cu cn w (w.setCell ⟨A, i, none⟩ v) := ⟨rfl, rfl, rfl, by simp [World.setCell], fun k _ hk _ _ _ => Below.heap_setCell _ _ _ _ hk⟩
theorem Ot.below {n : Nat} {w0 : World} (h : Ot A B cu cn w w') (h0 : Below n w0 w) (hn : n ≤ w.heap.size) (h1 : n ≤ A) (h2 : n ≤ B) (h3 : n ≤ cu) (h4 : n ≤ cn) : Below n w0 w' :=
  ⟨h.os.trans h0.os, h.tape.trans h0.tape, h.output.trans h0.output, Nat.le_trans h0.size h.size, fun k hk => (h.block k (by omega) (by omega) (by omega) (by omega) (by omega)).trans (h0.block k hk)⟩
/-- The table, behind anything that a stub's calls turn. -/
theorem Ot.tab (h : Ot A B cu cn w w') (hs : Su w A B cu cn s) (ht : Po.Tab w) : Po.Tab w' := by
  have h0 := ht 0 (by omega)
  have e1 : A ≠ 0 := fun e => by subst e; rw [hs.cells.1] at h0; cases h0
  have e2 : B ≠ 0 := fun e => by subst e; rw [hs.inb.cells.1] at h0; cases h0
  have e3 : cu ≠ 0 := fun e => by
    obtain ⟨x, y, hx⟩ := hs.inb.u
    subst e
    simp [World.cell?, hx] at h0
  have e4 : cn ≠ 0 := fun e => by
    obtain ⟨x, y, hx⟩ := hs.inb.n
    subst e
    simp [World.cell?, hx] at h0
  have hb := h.block 0 (by have := hs.lts; omega) (Ne.symm e1) (Ne.symm e2) (Ne.symm e3) (Ne.symm e4)
  intro j hj
  have := ht j hj
  simp only [World.cell?, hb] at this ⊢
  exact this
end

theorem how_nil (w : World) : Calls Tryz.prog 29 #[.pointer none] w fun e w' => e = .returned (.int .i64 0) ∧ w' = w := by
  go_enter Tryz.func29, Tryz.ntmps29
  go_wp2
  go_ret
  exact ⟨rfl, rfl⟩
theorem how_any (A B cu cn : Nat) (s : Sb) (w : World) (h : Su w A B cu cn s) : Calls Tryz.prog 29 #[.pointer (some ⟨A, 0, none⟩)] w fun e w' => e = .returned (.int .i64 (if bz s then 2 else 1)) ∧ w' = w := by
  obtain ⟨c0, c1, c2, c3, c4, c5, c6, c7⟩ := h.cells
  clear h
  have he0 : (⟨#[]⟩ : ByteArray).toList = [] := by rw [ByteArray.toList_eq]
  cases hb : bz s with
  | true =>
    have hl : (s.lt.toList == []) = false := by unfold bz at hb; simpa using hb
    go_enter Tryz.func29, Tryz.ntmps29
    go_wp2
    go_ret
    exact ⟨rfl, rfl⟩
  | false =>
    have hl : (s.lt.toList == []) = true := by unfold bz at hb; simpa using hb
    go_enter Tryz.func29, Tryz.ntmps29
    go_wp2
    go_ret
    exact ⟨rfl, rfl⟩
end Go.Proofs.YtkdhbjmpjbdobaaGreatDoor
/- YPn -/
namespace Go.Proofs.YtkdhbjmpjbdobaaGreatDoor
set_option maxRecDepth 100000
namespace Pn

/-- A panel of n nodes, of which f may fail. -/
def Is (n f : Int) : Prop := (n = 1 ∧ f = 0) ∨ (n = 3 ∧ f = 1) ∨ (n = 5 ∧ f = 2) ∨ (n = 7 ∧ f = 3)
def No (n : Int) : Prop := n < 1 ∨ 7 < n ∨ n = 2 ∨ n = 4 ∨ n = 6
theorem either (n : Int) : No n ∨ ∃ f, Is n f := by
  by_cases h1 : n < 1
  · exact .inl (.inl h1)
  by_cases h2 : 7 < n
  · exact .inl (.inr (.inl h2))
  have : n = 1 ∨ n = 2 ∨ n = 3 ∨ n = 4 ∨ n = 5 ∨ n = 6 ∨ n = 7 := by omega
  unfold No Is
  rcases this with h | h | h | h | h | h | h
  · exact .inr ⟨0, .inl ⟨h, rfl⟩⟩
  · exact .inl (by omega)
  · exact .inr ⟨1, .inr (.inl ⟨h, rfl⟩)⟩
  · exact .inl (by omega)
  · exact .inr ⟨2, .inr (.inr (.inl ⟨h, rfl⟩))⟩
  · exact .inl (by omega)
  · exact .inr ⟨3, .inr (.inr (.inr ⟨h, rfl⟩))⟩

theorem sorted_at (a : Int) : ∀ (s : List Int) (k : Nat), s.Pairwise (fun x y => x ≤ y) → k < s.length → (a ≤ s.getD k 0 ↔ s.length ≤ s.countP (fun b => decide (a ≤ b)) + k)
  | [], k, _, h => by simp at h
  | x :: t, 0, hp, _ => by
    obtain ⟨h1, h2⟩ := List.pairwise_cons.1 hp
    have hle := List.countP_le_length (p := fun b => decide (a ≤ b)) (l := t)
    rw [List.countP_cons]
    constructor
    · intro h
      have hx : a ≤ x := by simpa using h
      have : t.countP (fun b => decide (a ≤ b)) = t.length := by
        rw [List.countP_eq_length]
        intro y hy
        have := h1 y hy
        simp
        omega
      simp [this, hx]
    · intro h
      by_cases hx : a ≤ x
      · simpa using hx
      · simp [hx] at h
        omega
  | x :: t, k + 1, hp, hk => by
    obtain ⟨h1, h2⟩ := List.pairwise_cons.1 hp
    have hk' : k < t.length := by simpa using hk
    have ih := sorted_at a t k h2 hk'
    have hle := List.countP_le_length (p := fun b => decide (a ≤ b)) (l := t)
    have e : (x :: t).getD (k + 1) 0 = t.getD k 0 := by simp [List.getD]
    rw [e, ih, List.countP_cons]
    by_cases hx : a ≤ x
    · have : t.countP (fun b => decide (a ≤ b)) = t.length := by
        rw [List.countP_eq_length]
        intro y hy
        have := h1 y hy
        simp
        omega
      simp [this, hx]
    · simp [hx]
      omega

/-- The number in the middle. -/
def med (l : List Int) (f : Nat) : Int := (l.mergeSort fun x y => decide (x ≤ y)).getD f 0
theorem sorted_sort (l : List Int) : (l.mergeSort fun x y => decide (x ≤ y)).Pairwise (fun x y => x ≤ y) := by
  have h := List.pairwise_mergeSort (le := fun x y : Int => decide (x ≤ y)) (fun a b c h1 h2 => by simp at h1 h2 ⊢; omega) (fun a b => by simp; omega) l
  exact h.imp (fun h => by simpa using h)
theorem med_iff {l : List Int} {f : Nat} (hl : l.length = 2 * f + 1) (a : Int) : a ≤ med l f ↔ f + 1 ≤ l.countP (fun b => decide (a ≤ b)) := by
  have hp := List.mergeSort_perm l (fun x y : Int => decide (x ≤ y))
  have hlen := hp.length_eq
  have h := sorted_at a _ f (sorted_sort l) (by omega)
  rw [hp.countP_eq, hlen] at h
  unfold med
  rw [h]
  omega
theorem med_mem {l : List Int} {f : Nat} (hl : l.length = 2 * f + 1) : med l f ∈ l := by
  have hp := List.mergeSort_perm l (fun x y : Int => decide (x ≤ y))
  have hlen := hp.length_eq
  refine hp.mem_iff.1 ?_
  unfold med
  have hf : f < (l.mergeSort fun x y => decide (x ≤ y)).length := by omega
  rw [show (l.mergeSort fun x y => decide (x ≤ y)).getD f 0 = (l.mergeSort fun x y => decide (x ≤ y))[f] from by rw [List.getD_eq_getElem?_getD, List.getElem?_eq_getElem hf]; rfl]
  exact List.getElem_mem hf
/-- Few are above the middle. -/
theorem med_above {l : List Int} {f : Nat} (hl : l.length = 2 * f + 1) : l.countP (fun b => decide (med l f < b)) ≤ f := by
  have h := (med_iff hl (med l f + 1)).2
  have e : l.countP (fun b => decide (med l f < b)) = l.countP (fun b => decide (med l f + 1 ≤ b)) := by
    congr 1
  rw [e]
  by_cases hc : f + 1 ≤ l.countP (fun b => decide (med l f + 1 ≤ b))
  · have := h hc
    omega
  · omega
theorem med_have {l : List Int} {f : Nat} (hl : l.length = 2 * f + 1) : f + 1 ≤ l.countP (fun b => decide (med l f ≤ b)) := (med_iff hl _).1 (Int.le_refl _)
theorem med_eq {l : List Int} {f : Nat} (hl : l.length = 2 * f + 1) {a : Int} (h1 : f + 1 ≤ l.countP (fun b => decide (a ≤ b))) (h2 : l.countP (fun b => decide (a + 1 ≤ b)) ≤ f) : med l f = a := by
  have := (med_iff hl a).2 h1
  have h3 : ¬ (a + 1 ≤ med l f) := fun h => by
    have := (med_iff hl _).1 h
    omega
  omega
theorem med_five : med [4, 9, 2, 7, 1] 2 = 4 := med_eq rfl (by decide) (by decide)

/-- The greatest of l that enough of m have, behind b. -/
def best (m : List Int) (f : Nat) (b : Int) (l : List Int) : Int := l.foldl (fun b a => if f + 1 ≤ m.countP (fun c => decide (a ≤ c)) ∧ b < a then a else b) b
theorem best_snoc (m : List Int) (f : Nat) (b : Int) (l : List Int) (a : Int) : best m f b (l ++ [a]) = if f + 1 ≤ m.countP (fun c => decide (a ≤ c)) ∧ best m f b l < a then a else best m f b l := by
  unfold best
  rw [List.foldl_append]
  rfl
theorem best_ge {m : List Int} {f : Nat} : ∀ (l : List Int) (b : Int), b ≤ best m f b l ∧ (∀ a ∈ l, f + 1 ≤ m.countP (fun c => decide (a ≤ c)) → a ≤ best m f b l) ∧ (best m f b l = b ∨ f + 1 ≤ m.countP (fun c => decide (best m f b l ≤ c)))
  | [], b => ⟨Int.le_refl _, (fun _ h => by cases h), .inl rfl⟩
  | x :: l, b => by
    by_cases h : f + 1 ≤ m.countP (fun c => decide (x ≤ c)) ∧ b < x
    · have e : best m f b (x :: l) = best m f x l := by simp only [best, List.foldl_cons, if_pos h]
      obtain ⟨h1, h2, h3⟩ := best_ge (m := m) (f := f) l x
      rw [e]
      refine ⟨by omega, fun a ha hc => ?_, ?_⟩
      · rcases List.mem_cons.1 ha with rfl | ha
        · exact h1
        · exact h2 a ha hc
      · rcases h3 with h3 | h3
        · right
          rw [h3]
          exact h.1
        · exact .inr h3
    · have e : best m f b (x :: l) = best m f b l := by simp only [best, List.foldl_cons, if_neg h]
      obtain ⟨h1, h2, h3⟩ := best_ge (m := m) (f := f) l b
      rw [e]
      refine ⟨h1, fun a ha hc => ?_, h3⟩
      rcases List.mem_cons.1 ha with rfl | ha
      · have : ¬ b < a := fun hb => h ⟨hc, hb⟩
        omega
      · exact h2 a ha hc
theorem best_med {l : List Int} {f : Nat} (hl : l.length = 2 * f + 1) (h0 : ∀ x ∈ l, 0 ≤ x) : best l f 0 l = med l f := by
  obtain ⟨h1, h2, h3⟩ := best_ge (m := l) (f := f) l 0
  have hm := med_mem hl
  have ha := h2 _ hm (med_have hl)
  rcases h3 with h3 | h3
  · have := h0 _ hm
    omega
  · have := (med_iff hl _).2 h3
    omega

theorem count_add (p q : Nat → Bool) : ∀ l : List Nat, l.countP p + l.countP q ≤ l.length + l.countP (fun i => p i && q i)
  | [] => by simp
  | x :: l => by
    have := count_add p q l
    simp only [List.countP_cons, List.length_cons]
    cases p x <;> cases q x <;> simp <;> omega
/-- Two that are many have one in common. -/
theorem meets {p q : Nat → Bool} {n f : Nat} (hn : n = 2 * f + 1) (hp : f + 1 ≤ (List.range n).countP p) (hq : f + 1 ≤ (List.range n).countP q) : ∃ i, i < n ∧ p i = true ∧ q i = true := by
  have h := count_add p q (List.range n)
  have : 0 < (List.range n).countP (fun i => p i && q i) := by simp at h; omega
  obtain ⟨i, hi, hpq⟩ := List.countP_pos_iff.1 this
  simp at hi hpq
  exact ⟨i, hi, hpq.1, hpq.2⟩
/-- One that has many has one of the first f + 1. -/
theorem has_low {p : Nat → Bool} {n f : Nat} (hn : n = 2 * f + 1) (hp : f + 1 ≤ (List.range n).countP p) : ∃ i, i ≤ f ∧ i < n ∧ p i = true := by
  have hq : f + 1 ≤ (List.range n).countP (fun i => decide (i ≤ f)) := by
    subst hn
    rw [show 2 * f + 1 = (f + 1) + f from by omega, List.range_add, List.countP_append]
    have : (List.range (f + 1)).countP (fun i => decide (i ≤ f)) = f + 1 := by
      have h := (List.countP_eq_length (p := fun i => decide (i ≤ f)) (l := List.range (f + 1))).2 (fun a ha => by simp at ha ⊢; omega)
      rw [h, List.length_range]
    omega
  obtain ⟨i, hi, h1, h2⟩ := meets hn hp hq
  simp at h2
  exact ⟨i, h2, hi, h1⟩

/-- Is node i in the set s? -/
def bit (s i : Nat) : Bool := decide (s / 2 ^ i % 2 = 1)
def nodes (s n : Nat) : List Int := ((List.range n).filter (bit s)).map fun i : Nat => (i : Int)
theorem nodes_zero (s : Nat) : nodes s 0 = [] := rfl
theorem nodes_yes {s n : Nat} (h : bit s n = true) : nodes s (n + 1) = nodes s n ++ [(n : Int)] := by simp [nodes, List.range_succ, List.filter_append, h]
theorem nodes_no {s n : Nat} (h : bit s n = false) : nodes s (n + 1) = nodes s n := by simp [nodes, List.range_succ, List.filter_append, h]
theorem nodes_length (s n : Nat) : (nodes s n).length = (List.range n).countP (bit s) := by simp [nodes, List.countP_eq_length_filter]
theorem nodes_le (s n : Nat) : (nodes s n).length ≤ n := by
  rw [nodes_length]
  have := List.countP_le_length (p := bit s) (l := List.range n)
  simpa using this
theorem mem_nodes {s n : Nat} {x : Int} : x ∈ nodes s n ↔ ∃ i : Nat, i < n ∧ bit s i = true ∧ x = i := by
  simp only [nodes, List.mem_map, List.mem_filter, List.mem_range]
  constructor
  · rintro ⟨i, ⟨h1, h2⟩, rfl⟩
    exact ⟨i, h1, h2, rfl⟩
  · rintro ⟨i, h1, h2, rfl⟩
    exact ⟨i, ⟨h1, h2⟩, rfl⟩
theorem getD_mem {l : List Int} {i : Nat} (h : i < l.length) : l.getD i 0 ∈ l := by
  rw [List.getD_eq_getElem?_getD, List.getElem?_eq_getElem h]
  exact List.getElem_mem h
theorem mem_getD {l : List Int} {x : Int} (h : x ∈ l) : ∃ i, i < l.length ∧ l.getD i 0 = x := by
  obtain ⟨i, hi, rfl⟩ := List.getElem_of_mem h
  exact ⟨i, hi, by rw [List.getD_eq_getElem?_getD, List.getElem?_eq_getElem hi]; rfl⟩

/-- The i-th number, or a greater one. -/
def nx (l m : List Int) (i : Nat) : Int := if i < m.length ∧ l.getD i 0 < m.getD i 0 ∧ m.getD i 0 ≤ 1099511627776 then m.getD i 0 else l.getD i 0
def nexts (l m : List Int) (k : Nat) : List Int := (List.range k).map (nx l m)
theorem nexts_succ (l m : List Int) (k : Nat) : nexts l m (k + 1) = nexts l m k ++ [nx l m k] := by simp [nexts, List.range_succ]
theorem nexts_length (l m : List Int) (k : Nat) : (nexts l m k).length = k := by simp [nexts]
theorem nx_ge (l m : List Int) (i : Nat) : l.getD i 0 ≤ nx l m i := by unfold nx; split <;> omega
theorem nx_fits {l m : List Int} {i : Nat} (h : 0 ≤ l.getD i 0 ∧ l.getD i 0 ≤ 1099511627776) : 0 ≤ nx l m i ∧ nx l m i ≤ 1099511627776 := by unfold nx; split <;> omega
theorem range_map (l : List Int) : (List.range l.length).map (fun i => l.getD i 0) = l := by
  apply List.ext_getElem
  · simp
  · intro i h1 h2
    simp [List.getD, h2]
theorem count_nexts (l m : List Int) (a : Int) : l.countP (fun b => decide (a ≤ b)) ≤ (nexts l m l.length).countP (fun b => decide (a ≤ b)) := by
  have : l.countP (fun b => decide (a ≤ b)) = ((List.range l.length).map (fun i => l.getD i 0)).countP (fun b => decide (a ≤ b)) := by rw [range_map]
  rw [this]
  unfold nexts
  rw [List.countP_map, List.countP_map]
  refine List.countP_mono_left fun i _ h => ?_
  have := nx_ge l m i
  simp only [Function.comp, decide_eq_true_eq] at h ⊢
  omega
/-- What enough have never falls. -/
theorem med_grows {l : List Int} {f : Nat} (hl : l.length = 2 * f + 1) (m : List Int) : med l f ≤ med (nexts l m l.length) f :=
  (med_iff (by rw [nexts_length]; exact hl) _).2 (Nat.le_trans (med_have hl) (count_nexts l m _))
theorem count_take (p : Int → Bool) (l : List Int) (k : Nat) (h : k < l.length) : (l.take (k + 1)).countP p = (l.take k).countP p + if p (l.getD k 0) then 1 else 0 := by
  rw [List.take_succ_eq_append_getElem h, List.countP_append, List.countP_singleton]
  rw [List.getD_eq_getElem?_getD, List.getElem?_eq_getElem h]
  rfl
end Pn
end Go.Proofs.YtkdhbjmpjbdobaaGreatDoor
/- SPan -/
namespace Go.Proofs.YtkdhbjmpjbdobaaGreatDoor
open Go.RowKit
set_option maxRecDepth 100000
theorem isPanel_yes {n f : Int} (w : World) (h : Pn.Is n f) : Calls Tryz.prog 48 #[.int .i64 n] w fun e w' => e = .returned (.bool true) ∧ w' = w := by
  rcases h with ⟨rfl, rfl⟩ | ⟨rfl, rfl⟩ | ⟨rfl, rfl⟩ | ⟨rfl, rfl⟩
  all_goals
    go_enter Tryz.func48, Tryz.ntmps48
    go_wp2
    go_ret
    exact ⟨rfl, rfl⟩
theorem isPanel_no {n : Int} (w : World) (h : Pn.No n) : Calls Tryz.prog 48 #[.int .i64 n] w fun e w' => e = .returned (.bool false) ∧ w' = w := by
  rcases h with h | h | rfl | rfl | rfl
  · have h' : ¬ 1 ≤ n := by omega
    go_enter Tryz.func48, Tryz.ntmps48
    go_wp2
    go_ret
    exact ⟨rfl, rfl⟩
  · have h' : 1 ≤ n := by omega
    have h'' : ¬ n ≤ 7 := by omega
    go_enter Tryz.func48, Tryz.ntmps48
    go_wp2
    go_ret
    exact ⟨rfl, rfl⟩
  all_goals
    go_enter Tryz.func48, Tryz.ntmps48
    go_wp2
    go_ret
    exact ⟨rfl, rfl⟩
theorem replicas_any {n f : Int} (w : World) (h : Pn.Is n f) : Calls Tryz.prog 97 #[.int .i64 n] w fun e w' => e = .returned (.int .i64 (f + 1)) ∧ w' = w := by
  rcases h with ⟨rfl, rfl⟩ | ⟨rfl, rfl⟩ | ⟨rfl, rfl⟩ | ⟨rfl, rfl⟩
  all_goals
    go_enter Tryz.func97, Tryz.ntmps97
    go_wp2
    go_ret
    exact ⟨rfl, rfl⟩
theorem fits_yes {x : Int} (w : World) (h1 : 0 ≤ x) (h2 : x ≤ 1099511627776) : Calls Tryz.prog 98 #[.int .i64 x] w fun e w' => e = .returned (.bool true) ∧ w' = w := by
  go_enter Tryz.func98, Tryz.ntmps98
  go_wp2
  go_ret
  exact ⟨rfl, rfl⟩
theorem fits_no {x : Int} (w : World) (h : x < 0 ∨ 1099511627776 < x) : Calls Tryz.prog 98 #[.int .i64 x] w fun e w' => e = .returned (.bool false) ∧ w' = w := by
  rcases h with h | h
  · have h' : ¬ 0 ≤ x := by omega
    go_enter Tryz.func98, Tryz.ntmps98
    go_wp2
    go_ret
    exact ⟨rfl, rfl⟩
  · have h0 : 0 ≤ x := by omega
    have h' : ¬ x ≤ 1099511627776 := by omega
    go_enter Tryz.func98, Tryz.ntmps98
    go_wp2
    go_ret
    exact ⟨rfl, rfl⟩
theorem faults_yes {n f : Int} (w : World) (h : Pn.Is n f) : Calls Tryz.prog 23 #[.int .i64 n] w fun e w' => e = .returned (.tuple #[.int .i64 f, .int .i64 0]) ∧ w' = w := by
  have H : Hid (Pn.Is n f) := h
  rcases h with ⟨rfl, rfl⟩ | ⟨rfl, rfl⟩ | ⟨rfl, rfl⟩ | ⟨rfl, rfl⟩
  all_goals
    go_enter Tryz.func23, Tryz.ntmps23
    go_wp2_with fail
    refine (isPanel_yes _ H.out).mono ?_
    rintro e w' ⟨rfl, rfl⟩
    go_wp2
    go_ret2
    exact ⟨rfl, rfl⟩
theorem faults_no {n : Int} (w : World) (h : Pn.No n) : Calls Tryz.prog 23 #[.int .i64 n] w fun e w' => e = .returned (.tuple #[.int .i64 0, .int .i64 1]) ∧ w' = w := by
  have H : Hid (Pn.No n) := h
  clear h
  go_enter Tryz.func23, Tryz.ntmps23
  go_wp2_with fail
  refine (isPanel_no _ H.out).mono ?_
  rintro e w' ⟨rfl, rfl⟩
  go_wp2
  go_ret2
  exact ⟨rfl, rfl⟩

theorem replica_no {n : Int} (k : Int) (w : World) (h : Pn.No n) : Calls Tryz.prog 57 #[.int .i64 n, .int .i64 k] w fun e w' => e = .returned (.tuple #[.bool false, .int .i64 1]) ∧ w' = w := by
  have H : Hid (Pn.No n) := h
  clear h
  go_enter Tryz.func57, Tryz.ntmps57
  go_wp2_with fail
  refine (isPanel_no _ H.out).mono ?_
  rintro e w' ⟨rfl, rfl⟩
  go_wp2
  go_ret2
  exact ⟨rfl, rfl⟩
theorem replica_arg {n f : Int} (k : Int) (w : World) (h : Pn.Is n f) (hk : k < 0 ∨ n ≤ k) : Calls Tryz.prog 57 #[.int .i64 n, .int .i64 k] w fun e w' => e = .returned (.tuple #[.bool false, .int .i64 1]) ∧ w' = w := by
  have H : Hid (Pn.Is n f) := h
  clear h
  rcases hk with hk | hk
  · go_enter Tryz.func57, Tryz.ntmps57
    go_wp2_with fail
    refine (isPanel_yes _ H.out).mono ?_
    rintro e w' ⟨rfl, rfl⟩
    go_wp2
    go_ret2
    exact ⟨rfl, rfl⟩
  · by_cases hk' : k < 0
    all_goals
      go_enter Tryz.func57, Tryz.ntmps57
      go_wp2_with fail
      refine (isPanel_yes _ H.out).mono ?_
      rintro e w' ⟨rfl, rfl⟩
      go_wp2
      go_ret2
      exact ⟨rfl, rfl⟩
theorem replica_yes {n f : Int} (k : Int) (w : World) (h : Pn.Is n f) (h0 : 0 ≤ k) (h1 : k < n) : Calls Tryz.prog 57 #[.int .i64 n, .int .i64 k] w fun e w' => e = .returned (.tuple #[.bool (decide (k < f + 1)), .int .i64 0]) ∧ w' = w := by
  have H : Hid (Pn.Is n f) := h
  clear h
  go_enter Tryz.func57, Tryz.ntmps57
  go_wp2_with fail
  refine (isPanel_yes _ H.out).mono ?_
  rintro e w' ⟨rfl, rfl⟩
  go_wp2_with fail
  refine (replicas_any _ H.out).mono ?_
  rintro e w' ⟨rfl, rfl⟩
  go_wp2
  go_ret2
  exact ⟨rfl, rfl⟩
theorem primary_no {n : Int} (v : Int) (w : World) (h : Pn.No n) : Calls Tryz.prog 58 #[.int .i64 n, .int .i64 v] w fun e w' => e = .returned (.tuple #[.int .i64 0, .int .i64 1]) ∧ w' = w := by
  have H : Hid (Pn.No n) := h
  clear h
  go_enter Tryz.func58, Tryz.ntmps58
  go_wp2_with fail
  refine (isPanel_no _ H.out).mono ?_
  rintro e w' ⟨rfl, rfl⟩
  go_wp2
  go_ret2
  exact ⟨rfl, rfl⟩
theorem primary_arg {n f : Int} (v : Int) (w : World) (h : Pn.Is n f) (hv : v < 0 ∨ 1099511627776 < v) : Calls Tryz.prog 58 #[.int .i64 n, .int .i64 v] w fun e w' => e = .returned (.tuple #[.int .i64 0, .int .i64 1]) ∧ w' = w := by
  have H : Hid (Pn.Is n f) := h
  have HV : Hid (v < 0 ∨ 1099511627776 < v) := hv
  clear h hv
  go_enter Tryz.func58, Tryz.ntmps58
  go_wp2_with fail
  refine (isPanel_yes _ H.out).mono ?_
  rintro e w' ⟨rfl, rfl⟩
  go_wp2_with fail
  refine (fits_no _ HV.out).mono ?_
  rintro e w' ⟨rfl, rfl⟩
  go_wp2
  go_ret2
  exact ⟨rfl, rfl⟩
theorem primary_yes {n f : Int} (v : Int) (w : World) (h : Pn.Is n f) (h0 : 0 ≤ v) (h1 : v ≤ 1099511627776) : Calls Tryz.prog 58 #[.int .i64 n, .int .i64 v] w fun e w' => e = .returned (.tuple #[.int .i64 (v % (f + 1)), .int .i64 0]) ∧ w' = w := by
  have H : Hid (Pn.Is n f) := h
  rcases h with ⟨rfl, rfl⟩ | ⟨rfl, rfl⟩ | ⟨rfl, rfl⟩ | ⟨rfl, rfl⟩
  all_goals
    go_enter Tryz.func58, Tryz.ntmps58
    go_wp2_with fail
    refine (isPanel_yes _ H.out).mono ?_
    rintro e w' ⟨rfl, rfl⟩
    go_wp2_with fail
    refine (fits_yes _ h0 h1).mono ?_
    rintro e w' ⟨rfl, rfl⟩
    go_wp2_with fail
    refine (replicas_any _ H.out).mono ?_
    rintro e w' ⟨rfl, rfl⟩
    go_wp2
    go_ret2
    refine ⟨?_, rfl⟩
    first | rfl | simp

theorem refFaults_yes {n f : Int} (w : World) (h : Pn.Is n f) : Calls Tryz.prog 25 #[.int .i64 n] w fun e w' => e = .returned (.int .i64 f) ∧ w' = w := by
  rcases h with ⟨rfl, rfl⟩ | ⟨rfl, rfl⟩ | ⟨rfl, rfl⟩ | ⟨rfl, rfl⟩
  all_goals
    go_enter Tryz.func25, Tryz.ntmps25
    go_wp2
    refine wp_loop_rounds 4 ?_
    repeat (rw [rounds_succ]; go_wp2)
    go_ret
    exact ⟨rfl, rfl⟩
theorem refFaults_no {n : Int} (w : World) (h : Pn.No n) : Calls Tryz.prog 25 #[.int .i64 n] w fun e w' => e = .returned (.int .i64 (-1)) ∧ w' = w := by
  have h1 : ¬ n = 1 := by rcases h with h | h | h | h | h <;> omega
  have h3 : ¬ n = 3 := by rcases h with h | h | h | h | h <;> omega
  have h5 : ¬ n = 5 := by rcases h with h | h | h | h | h <;> omega
  have h7 : ¬ n = 7 := by rcases h with h | h | h | h | h <;> omega
  clear h
  go_enter Tryz.func25, Tryz.ntmps25
  go_wp2
  refine wp_loop_rounds 5 ?_
  repeat (rw [rounds_succ]; go_wp2)
  go_ret
  exact ⟨rfl, rfl⟩
theorem refPrimary_no {n : Int} (v : Int) (w : World) (h : Pn.No n) : Calls Tryz.prog 37 #[.int .i64 n, .int .i64 v] w fun e w' => e = .returned (.int .i64 (-1)) ∧ w' = w := by
  have H : Hid (Pn.No n) := h
  clear h
  go_enter Tryz.func37, Tryz.ntmps37
  go_wp2_with fail
  refine (refFaults_no _ H.out).mono ?_
  rintro e w' ⟨rfl, rfl⟩
  go_wp2
  go_ret
  exact ⟨rfl, rfl⟩
theorem refPrimary_arg {n f : Int} (v : Int) (w : World) (h : Pn.Is n f) (hv : v < 0 ∨ 1099511627776 < v) : Calls Tryz.prog 37 #[.int .i64 n, .int .i64 v] w fun e w' => e = .returned (.int .i64 (-1)) ∧ w' = w := by
  have H : Hid (Pn.Is n f) := h
  by_cases v0 : v < 0
  · rcases h with ⟨rfl, rfl⟩ | ⟨rfl, rfl⟩ | ⟨rfl, rfl⟩ | ⟨rfl, rfl⟩
    all_goals
      go_enter Tryz.func37, Tryz.ntmps37
      go_wp2_with fail
      refine (refFaults_yes _ H.out).mono ?_
      rintro e w' ⟨rfl, rfl⟩
      go_wp2
      go_ret
      exact ⟨rfl, rfl⟩
  · have v1 : 1099511627776 < v := by omega
    clear hv
    rcases h with ⟨rfl, rfl⟩ | ⟨rfl, rfl⟩ | ⟨rfl, rfl⟩ | ⟨rfl, rfl⟩
    all_goals
      go_enter Tryz.func37, Tryz.ntmps37
      go_wp2_with fail
      refine (refFaults_yes _ H.out).mono ?_
      rintro e w' ⟨rfl, rfl⟩
      go_wp2
      go_ret
      exact ⟨rfl, rfl⟩
theorem refPrimary_yes {n f : Int} (v : Int) (w : World) (h : Pn.Is n f) (h0 : 0 ≤ v) (h1 : v ≤ 1099511627776) : Calls Tryz.prog 37 #[.int .i64 n, .int .i64 v] w fun e w' => e = .returned (.int .i64 (v % (f + 1))) ∧ w' = w := by
  have H : Hid (Pn.Is n f) := h
  have h0' : ¬ v < 0 := by omega
  have h1' : ¬ 1099511627776 < v := by omega
  rcases h with ⟨rfl, rfl⟩ | ⟨rfl, rfl⟩ | ⟨rfl, rfl⟩ | ⟨rfl, rfl⟩
  all_goals
    go_enter Tryz.func37, Tryz.ntmps37
    go_wp2_with fail
    refine (refFaults_yes _ H.out).mono ?_
    rintro e w' ⟨rfl, rfl⟩
    go_wp2
    go_ret
    refine ⟨?_, rfl⟩
    first | rfl | simp
end Go.Proofs.YtkdhbjmpjbdobaaGreatDoor
/- SSend -/
namespace Go.Proofs.YtkdhbjmpjbdobaaGreatDoor
open Go.ChangeShapes Go.WideShapes Go.ChangeAt Go.RowKit Go.Deep
set_option maxRecDepth 100000
open Sk
abbrev BO (t : Int) (x : ByteArray) : Obj := .cells #[.int .i64 t, .string x] 65
/-- One letter that is sent. -/
structure Out1 (w : World) (v : Value) (D : Nat) (t : Int) (x : ByteArray) : Prop where
  is : v = .slice (some ⟨D, 0, none⟩) 1 1
  blk : w.heap[D]? = some (BO t x)
theorem Out1.cells {w : World} {v : Value} {D : Nat} {t : Int} {x : ByteArray} (h : Out1 w v D t x) : w.cell? ⟨D, 0, none⟩ = some (.int .i64 t) ∧ w.cell? ⟨D, 1, none⟩ = some (.string x) := by
  refine ⟨?_, ?_⟩ <;> simp [World.cell?, h.blk]
theorem send_any (A B cu cn : Nat) (s : Sb) (w : World) (h : Su w A B cu cn s) : Calls Tryz.prog 31 #[.pointer (some ⟨A, 0, none⟩)] w fun e w' => ∃ D v, e = .returned v ∧ Out1 w' v D s.t s.lt ∧ w.heap.size ≤ D ∧ D < w'.heap.size ∧ Su w' A B cu cn { s with g := false } ∧ Ot A B cu cn w w' := by
  have g4 := h.fr 4
  have HS : Hid (Su (w.setCell ⟨A, 4, none⟩ (.bool false)) A B cu cn { s with g := false }) := h.setG false
  have HO : Hid (Ot A B cu cn w (w.setCell ⟨A, 4, none⟩ (.bool false))) := Ot.set 4 _
  obtain ⟨c0, c1, c2, c3, c4, c5, c6, c7⟩ := h.cells
  clear h
  obtain ⟨W, hW⟩ : ∃ W, w.setCell ⟨A, 4, none⟩ (.bool false) = W := ⟨_, rfl⟩
  go_enter Tryz.func31, Tryz.ntmps31
  go_wp2
  rw [hW] at HS HO
  clear c0 c1 c2 c3 c4 c5 c6 c7
  obtain ⟨c0, c1, c2, c3, c4, c5, c6, c7⟩ := HS.out.cells
  go_region
  all_goals
    go_wp2
    go_ret
    refine ⟨_, _, rfl, ⟨rfl, heap_alloc_new _ _⟩, HO.out.size, ?_, ?_, ?_⟩
    · simp
    · exact HS.out.up (below_alloc _ _).drew
    · exact HO.out.trans (Ot.of (below_alloc _ _).drew)
theorem isFull_any (A B cu cn : Nat) (s : Sb) (w : World) (h : Su w A B cu cn s) : Calls Tryz.prog 30 #[.pointer (some ⟨A, 0, none⟩)] w fun e w' => e = .returned (.bool (((s.L.length : Nat) : Int) == 64 || s.r == 1099511627776)) ∧ Su w' A B cu cn s ∧ Ot A B cu cn w w' := by
  have H : Hid (Su w A B cu cn s) := h
  obtain ⟨c0, c1, c2, c3, c4, c5, c6, c7⟩ := h.cells
  clear h
  obtain ⟨b1, hb1⟩ : ∃ b, (((s.L.length : Nat) : Int) == 64) = b := ⟨_, rfl⟩
  rw [hb1]
  cases b1 <;>
  · go_enter Tryz.func30, Tryz.ntmps30
    go_wp2_with fail
    refine (Xs.len_any B cu cn 64 false [] s.L _ H.out.inb).mono ?_
    rintro e w1 ⟨rfl, hi, ho⟩
    have H1 : Hid (Su w1 A B cu cn s ∧ Ot A B cu cn w w1) := ⟨H.out.oth hi ho, Ot.oth ho⟩
    clear hi ho H c0 c1 c2 c3 c4 c5 c6 c7
    obtain ⟨c0, c1, c2, c3, c4, c5, c6, c7⟩ := H1.out.1.cells
    go_wp2
    go_ret
    exact ⟨rfl, H1.out⟩
theorem under_nil (w : World) : Calls Tryz.prog 18 #[.pointer none] w fun e w' => e = .returned (.tuple #[.int .i64 0, .bool false]) ∧ w' = w := by
  go_enter Tryz.func18, Tryz.ntmps18
  go_wp2_with fail
  refine (how_nil _).mono ?_
  rintro e w1 ⟨rfl, rfl⟩
  go_wp2
  go_ret2
  exact ⟨rfl, rfl⟩
theorem under_any (A B cu cn : Nat) (s : Sb) (w : World) (h : Su w A B cu cn s) : Calls Tryz.prog 18 #[.pointer (some ⟨A, 0, none⟩)] w fun e w' => e = .returned (.tuple #[.int .i64 (if bz s then s.r else 0), .bool (bz s)]) ∧ Below w.heap.size w w' := by
  have H : Hid (Su w A B cu cn s) := h
  obtain ⟨c0, c1, c2, c3, c4, c5, c6, c7⟩ := h.cells
  clear h
  cases hb : bz s with
  | true =>
    go_enter Tryz.func18, Tryz.ntmps18
    go_wp2_with fail
    refine (how_any A B cu cn s _ H.out).mono ?_
    rintro e w1 ⟨rfl, rfl⟩
    rw [hb]
    go_wp2
    go_ret2
    exact ⟨rfl, Below.refl _ _⟩
  | false =>
    go_enter Tryz.func18, Tryz.ntmps18
    go_wp2_with fail
    refine (how_any A B cu cn s _ H.out).mono ?_
    rintro e w1 ⟨rfl, rfl⟩
    rw [hb]
    go_wp2
    go_ret2
    exact ⟨rfl, Below.refl _ _⟩
theorem target_nil (w : World) : Calls Tryz.prog 19 #[.pointer none] w fun e w' => e = .returned (.int .i64 0) ∧ w' = w := by
  go_enter Tryz.func19, Tryz.ntmps19
  go_wp2_with fail
  refine (how_nil _).mono ?_
  rintro e w1 ⟨rfl, rfl⟩
  go_wp2
  go_ret
  exact ⟨rfl, rfl⟩
theorem target_any (A B cu cn : Nat) (s : Sb) (w : World) (h : Su w A B cu cn s) : Calls Tryz.prog 19 #[.pointer (some ⟨A, 0, none⟩)] w fun e w' => e = .returned (.int .i64 s.t) ∧ Below w.heap.size w w' := by
  have H : Hid (Su w A B cu cn s) := h
  obtain ⟨c0, c1, c2, c3, c4, c5, c6, c7⟩ := h.cells
  clear h
  cases hb : bz s <;>
  · go_enter Tryz.func19, Tryz.ntmps19
    go_wp2_with fail
    refine (how_any A B cu cn s _ H.out).mono ?_
    rintro e w1 ⟨rfl, rfl⟩
    rw [hb]
    go_wp2
    go_ret
    exact ⟨rfl, Below.refl _ _⟩
theorem isNode_any {f : Int} (k : Int) (A B cu cn : Nat) (s : Sb) (w : World) (h : Su w A B cu cn s) (hn : Pn.Is s.n f) : Calls Tryz.prog 33 #[.pointer (some ⟨A, 0, none⟩), .int .i64 k] w fun e w' => e = .returned (.bool (decide (0 ≤ k ∧ k < s.n))) ∧ w' = w := by
  obtain ⟨c0, c1, c2, c3, c4, c5, c6, c7⟩ := h.cells
  clear h
  have HN : Hid (Pn.Is s.n f) := hn
  clear hn
  by_cases hk : 0 ≤ k ∧ k < s.n
  · rw [decide_eq_true hk]
    go_enter Tryz.func33, Tryz.ntmps33
    go_wp2_with fail
    refine (replica_yes k _ HN.out hk.1 hk.2).mono ?_
    rintro e w1 ⟨rfl, rfl⟩
    clear hk
    go_wp2
    go_ret
    exact ⟨rfl, rfl⟩
  · rw [decide_eq_false hk]
    go_enter Tryz.func33, Tryz.ntmps33
    go_wp2_with fail
    refine (replica_arg k _ HN.out (by omega)).mono ?_
    rintro e w1 ⟨rfl, rfl⟩
    clear hk
    go_wp2
    go_ret
    exact ⟨rfl, rfl⟩
theorem next_any {f : Int} (A B cu cn : Nat) (s : Sb) (w : World) (h : Su w A B cu cn s) (hn : Pn.Is s.n f) (ht : s.t ≤ 100) (ht0 : 0 ≤ s.t) : Calls Tryz.prog 39 #[.pointer (some ⟨A, 0, none⟩)] w fun e w' => e = .returned (.int .i64 (if s.t = f then 0 else s.t + 1)) ∧ w' = w := by
  obtain ⟨c0, c1, c2, c3, c4, c5, c6, c7⟩ := h.cells
  clear h
  have HN : Hid (Pn.Is s.n f) := hn
  clear hn
  by_cases hf : s.t = f
  · rw [if_pos hf]
    go_enter Tryz.func39, Tryz.ntmps39
    go_wp2_with fail
    refine (faults_yes _ HN.out).mono ?_
    rintro e w1 ⟨rfl, rfl⟩
    go_wp2
    go_ret
    exact ⟨rfl, rfl⟩
  · rw [if_neg hf]
    have hx : (s.t + 1).bmod 18446744073709551616 = s.t + 1 := by rw [Int.bmod_eq_of_le_mul_two] <;> omega
    go_enter Tryz.func39, Tryz.ntmps39
    go_wp2_with fail
    refine (faults_yes _ HN.out).mono ?_
    rintro e w1 ⟨rfl, rfl⟩
    go_wp2
    go_ret
    exact ⟨rfl, rfl⟩
end Go.Proofs.YtkdhbjmpjbdobaaGreatDoor
/- SNew -/
namespace Go.Proofs.YtkdhbjmpjbdobaaGreatDoor
open Go.ChangeShapes Go.WideShapes Go.ChangeAt Go.RowKit Go.Deep
set_option maxRecDepth 100000
open Sk
abbrev s0 (id n : Int) : Sb := ⟨id, n, 0, 0, false, 0, ⟨#[]⟩, []⟩
theorem snew_no {n : Int} (id : Int) (w : World) (h : Pn.No n) : Calls Tryz.prog 6 #[.int .i64 id, .int .i64 n] w fun e w' => e = .returned (.tuple #[.pointer none, .int .i64 1]) ∧ w' = w := by
  have H : Hid (Pn.No n) := h
  clear h
  go_enter Tryz.func6, Tryz.ntmps6
  go_wp2_with fail
  refine (faults_no _ H.out).mono ?_
  rintro e w1 ⟨rfl, rfl⟩
  go_wp2
  go_ret2
  exact ⟨rfl, rfl⟩
theorem snew_arg {n f : Int} (id : Int) (w : World) (h : Pn.Is n f) (hi : id < n ∨ 31 < id) : Calls Tryz.prog 6 #[.int .i64 id, .int .i64 n] w fun e w' => e = .returned (.tuple #[.pointer none, .int .i64 1]) ∧ w' = w := by
  have H : Hid (Pn.Is n f) := h
  clear h
  go_enter Tryz.func6, Tryz.ntmps6
  go_wp2_with fail
  refine (faults_yes _ H.out).mono ?_
  rintro e w1 ⟨rfl, rfl⟩
  by_cases h1 : id < n
  · clear hi
    go_wp2
    go_ret2
    exact ⟨rfl, rfl⟩
  · have h2 : 31 < id := by omega
    clear hi
    go_wp2
    go_ret2
    exact ⟨rfl, rfl⟩
theorem snew_ok {n f : Int} (id : Int) (w : World) (h : Pn.Is n f) (h1 : n ≤ id) (h2 : id ≤ 31) : Calls Tryz.prog 6 #[.int .i64 id, .int .i64 n] w fun e w' => ∃ A B cu cn, e = .returned (.tuple #[.pointer (some ⟨A, 0, none⟩), .int .i64 0]) ∧ Su w' A B cu cn (s0 id n) ∧ (w.heap.size ≤ A ∧ w.heap.size ≤ B ∧ w.heap.size ≤ cu ∧ w.heap.size ≤ cn) ∧ Below w.heap.size w w' := by
  have H : Hid (Pn.Is n f) := h
  clear h
  have h1' : ¬ id < n := by omega
  have h2' : ¬ 31 < id := by omega
  clear h1 h2
  go_enter Tryz.func6, Tryz.ntmps6
  go_wp2_with fail
  refine (faults_yes _ H.out).mono ?_
  rintro e w1 ⟨rfl, rfl⟩
  go_wp2_with fail
  refine (Xs.new_ok 64 _ (by omega) (by omega)).mono ?_
  rintro e w2 ⟨cu, cn, rfl, hi, hu, hn, hb⟩
  have HI : Hid (Xs.In w2 (w1.heap.size + 2) cu cn 64 false [] [] ∧ w1.heap.size ≤ cu ∧ w1.heap.size ≤ cn ∧ Below w1.heap.size w1 w2) := ⟨hi, hu, hn, hb⟩
  clear hi hu hn hb
  go_wp2
  go_ret2
  obtain ⟨hi, hu, hn, hb⟩ := HI.out
  have hal := below_alloc w2 (BS (s0 id n) (w1.heap.size + 2))
  refine ⟨w2.heap.size, w1.heap.size + 2, cu, cn, rfl, ⟨heap_alloc_new _ _, ?_⟩, ⟨hb.size, by omega, hu, hn⟩, bup hb hal⟩
  obtain ⟨_, _, e1⟩ := hi.u
  obtain ⟨_, _, e2⟩ := hi.n
  exact hi.up (hal.block _ (some_lt hi.bx)) (hal.block _ (some_lt e1)) (hal.block _ (some_lt e2))
end Go.Proofs.YtkdhbjmpjbdobaaGreatDoor
