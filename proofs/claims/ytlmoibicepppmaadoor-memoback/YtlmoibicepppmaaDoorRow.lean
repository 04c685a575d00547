/-
  Slices of structs as lists, whatever the struct: what a value stands for in a world, rows that the program itself made, and append onto them. No program.
-/
import Derived.WalkKit
import Derived.ProofKit
import Derived.Deep.AppendSrc
import Derived.Deep.DeepAppendWide
import Derived.WalkSmall
import Derived.BigQuiet
import Derived.Deep.QuietTactic
namespace Go.Proofs.YtlmoibicepppmaaDoor
open Go.RowKit
set_option maxRecDepth 100000

theorem grown_refl (w : World) (row : Option Nat) : w.grownBy w row := ⟨rfl, rfl, rfl, Nat.le_refl _, fun _ _ _ => rfl⟩
theorem grown_trans {a b c : World} {row : Option Nat} (h : a.grownBy b row) (k : b.grownBy c row) : a.grownBy c row :=
  ⟨k.os.trans h.os, k.tape.trans h.tape, k.output.trans h.output, Nat.le_trans h.size k.size, fun i hi hr => (k.block i (Nat.lt_of_lt_of_le hi h.size) hr).trans (h.block i hi hr)⟩
theorem grown_of_below {w w' : World} (h : Below w.heap.size w w') (row : Option Nat) : w.grownBy w' row := ⟨h.os, h.tape, h.output, h.size, fun k hk _ => h.block k hk⟩
theorem below_none {B : Nat} {w w' : World} (h : w.grownBy w' none) (hs : B ≤ w.heap.size) : Below B w w' := (Below.refl B w).grown h hs (fun k hk => by cases hk)
theorem grown_any {w W : World} (h : w.grownBy W none) (row : Option Nat) : w.grownBy W row := ⟨h.os, h.tape, h.output, h.size, fun k hk _ => h.block k hk (by simp)⟩
theorem grown_drew {w W : World} {row : Option Nat} (h : w.grownBy W row) (q : Nat) : w.grownBy (W.drewN q) row := ⟨h.os, h.tape, h.output, h.size, h.block⟩

/-- How a struct lies in cells. -/
structure Enc (α : Type) where
  sz : Nat
  cells : α → List Value
  len : ∀ x, (cells x).length = sz
  one : ∀ x, ∀ u ∈ cells x, u.oneCell' = true
variable {α : Type}
def Enc.flat (E : Enc α) (l : List α) : List Value := l.flatMap E.cells
theorem Enc.flat_length (E : Enc α) (l : List α) : (E.flat l).length = l.length * E.sz := by
  induction l with
  | nil => simp [Enc.flat]
  | cons x l ih =>
    have e : E.flat (x :: l) = E.cells x ++ E.flat l := by simp [Enc.flat]
    rw [e, List.length_append, ih, E.len, List.length_cons, Nat.succ_mul]
    omega
theorem Enc.flat_append (E : Enc α) (l m : List α) : E.flat (l ++ m) = E.flat l ++ E.flat m := by simp [Enc.flat]
theorem Enc.flat_one (E : Enc α) (l : List α) : ∀ u ∈ E.flat l, u.oneCell' = true := fun u hu => by
  obtain ⟨x, _, hx⟩ := List.mem_flatMap.1 hu
  exact E.one x u hx
theorem Enc.flat_at (E : Enc α) : ∀ (l : List α) (i : Nat) (x : α), l[i]? = some x → ∀ k u, (E.cells x)[k]? = some u → (E.flat l)[i * E.sz + k]? = some u
  | [], i, x, h, _, _, _ => by simp at h
  | y :: l, 0, x, h, k, u, hu => by
    simp at h
    subst h
    have e : E.flat (y :: l) = E.cells y ++ E.flat l := by simp [Enc.flat]
    rw [e, Nat.zero_mul, Nat.zero_add, List.getElem?_append_left (List.getElem?_eq_some_iff.1 hu).1]
    exact hu
  | y :: l, i + 1, x, h, k, u, hu => by
    have e : E.flat (y :: l) = E.cells y ++ E.flat l := by simp [Enc.flat]
    have := E.flat_at l i x (by simpa using h) k u hu
    rw [e, Nat.succ_mul, List.getElem?_append_right (by rw [E.len]; omega), E.len, show i * E.sz + E.sz + k - E.sz = i * E.sz + k from by omega]
    exact this
theorem Enc.flat_set (E : Enc α) : ∀ (l : List α) (i : Nat) (x : α), i < l.length → (E.flat l).take (i * E.sz) ++ E.cells x ++ (E.flat l).drop (i * E.sz + E.sz) = E.flat (l.set i x)
  | [], i, x, h => by simp at h
  | y :: l, 0, x, h => by
    have e : ∀ z, E.flat (z :: l) = E.cells z ++ E.flat l := fun z => by simp [Enc.flat]
    rw [List.set_cons_zero, e, e, Nat.zero_mul, List.take_zero, Nat.zero_add, List.nil_append]
    congr 1
    rw [List.drop_append_of_le_length (by rw [E.len]; omega), List.drop_of_length_le (by rw [E.len]; omega)]
    rfl
  | y :: l, i + 1, x, h => by
    have e : ∀ (z : α) m, E.flat (z :: m) = E.cells z ++ E.flat m := fun z m => by simp [Enc.flat]
    have ih := E.flat_set l i x (by simpa using h)
    have hl := E.len y
    rw [List.set_cons_succ, e, e, ← ih, Nat.succ_mul]
    have h1 : (E.cells y ++ E.flat l).take (i * E.sz + E.sz) = E.cells y ++ (E.flat l).take (i * E.sz) := by
      rw [List.take_append, List.take_of_length_le (by omega), hl, show i * E.sz + E.sz - E.sz = i * E.sz from by omega]
    have h2 : (E.cells y ++ E.flat l).drop (i * E.sz + E.sz + E.sz) = (E.flat l).drop (i * E.sz + E.sz) := by
      rw [List.drop_append, List.drop_of_length_le (by omega), hl, show i * E.sz + E.sz + E.sz - E.sz = i * E.sz + E.sz from by omega, List.nil_append]
    rw [h1, h2, List.append_assoc, List.append_assoc, List.append_assoc]

/-- The value v stands for the list l; its cells lie in a block of which S says yes. -/
def At (E : Enc α) (S : Nat → Prop) (w : World) (v : Value) (l : List α) : Prop :=
  (∃ ao cap, v = .slice ao 0 cap ∧ l = []) ∨
  (∃ b off cap, v = .slice (some ⟨b, off, none⟩) l.length cap ∧ S b ∧ b < w.heap.size ∧ 0 < l.length ∧ l.length ≤ cap ∧ cap ≤ maxLen ∧
    ∀ j u, (E.flat l)[j]? = some u → w.cell? ⟨b, off + j, none⟩ = some u)
theorem cell_block {w w' : World} {p : Addr} (h : w'.heap[p.block]? = w.heap[p.block]?) : w'.cell? p = w.cell? p := by
  unfold World.cell?
  rw [h]
theorem At.keep {E : Enc α} {S T : Nat → Prop} {w w' : World} {v : Value} {l : List α} (h : At E S w v l) (hs : w.heap.size ≤ w'.heap.size) (hk : ∀ b, S b → b < w.heap.size → w'.heap[b]? = w.heap[b]? ∧ T b) : At E T w' v l := by
  rcases h with h | ⟨b, off, cap, rfl, hS, hb, hp, hc, hm, hx⟩
  · exact .inl h
  · have := hk b hS hb
    exact .inr ⟨b, off, cap, rfl, this.2, by omega, hp, hc, hm, fun j u hj => (cell_block this.1).trans (hx j u hj)⟩
theorem At.imp {E : Enc α} {S T : Nat → Prop} {w : World} {v : Value} {l : List α} (h : At E S w v l) (hk : ∀ b, S b → b < w.heap.size → T b) : At E T w v l := h.keep (Nat.le_refl _) fun b hb hl => ⟨rfl, hk b hb hl⟩
/-- Wherever it lies. -/
abbrev AtW (E : Enc α) (w : World) (v : Value) (l : List α) : Prop := At E (fun _ => True) w v l
theorem At.wide {E : Enc α} {S : Nat → Prop} {w : World} {v : Value} {l : List α} (h : At E S w v l) : AtW E w v l := h.imp fun _ _ _ => trivial
theorem At.up {E : Enc α} {S : Nat → Prop} {w w' : World} {v : Value} {l : List α} (h : At E S w v l) (hb : Below w.heap.size w w') : At E S w' v l := h.keep hb.size fun b hS hl => ⟨hb.block b hl, hS⟩
theorem At.grown {E : Enc α} {S : Nat → Prop} {w w' : World} {v : Value} {l : List α} {row : Option Nat} (h : At E S w v l) (hg : w.grownBy w' row) (hr : ∀ g, row = some g → ¬ S g) : At E S w' v l := h.keep hg.size fun b hS hl =>
  ⟨hg.block b hl (fun e => hr b e.symm hS), hS⟩
theorem At.open {E : Enc α} {S : Nat → Prop} {w : World} {v : Value} {l : List α} (h : At E S w v l) : ∃ ao cap, v = .slice ao l.length cap ∧ l.length ≤ maxLen ∧
    ∀ i x, l[i]? = some x → ∃ b off, ao = some ⟨b, off, none⟩ ∧ S b ∧ b < w.heap.size ∧ ∀ k u, (E.cells x)[k]? = some u → w.cell? ⟨b, off + (i * E.sz + k), none⟩ = some u := by
  rcases h with ⟨ao, cap, rfl, rfl⟩ | ⟨b, off, cap, rfl, hS, hb, _, hc, hm, hx⟩
  · exact ⟨ao, cap, rfl, by simp, fun j x hj => by simp at hj⟩
  · exact ⟨_, cap, rfl, by omega, fun i x hi => ⟨b, off, rfl, hS, hb, fun k u hu => hx _ _ (E.flat_at l i x hi k u hu)⟩⟩
theorem At.src {E : Enc α} {S : Nat → Prop} {P : Program} {w : World} {v : Value} {l : List α} {t e : TypeId} (hk : P.underlying t = some (.slice e)) (h : At E S w v l) : Src P E.sz t v l.length (E.flat l) w := by
  rcases h with ⟨ao, cap, rfl, rfl⟩ | ⟨b, off, cap, rfl, hS, hlt, _, hc, hm, hx⟩
  · cases ao with
    | none => exact Src.ofNil w hk cap
    | some a => exact Src.ofSlice w hk a 0 cap [] (by simp) (fun j u hj => by simp at hj) (fun u hu => by cases hu)
  · exact Src.ofSlice w hk _ _ cap _ (E.flat_length l) (fun j u hj => by rw [WideShapes.add_plain]; exact hx j u hj) (E.flat_one l)
theorem At.nil {E : Enc α} {S : Nat → Prop} {w : World} : At E S w (.slice none 0 0) [] := .inl ⟨_, _, rfl, rfl⟩

/-- A row in the program's own memory, from block B on; elements of type e. -/
def Row (E : Enc α) (w : World) (B : Nat) (e : TypeId) (v : Value) (ls : List α) : Prop :=
  (v = .slice none 0 0 ∧ ls = []) ∨
  ∃ g cap cur, v = .slice (some ⟨g, 0, none⟩) ls.length cap ∧ B ≤ g ∧ w.heap[g]? = some (.cells cur e (0, 0)) ∧ ls.length ≤ cap ∧ cap ≤ maxLen ∧ cap * E.sz ≤ cur.size ∧ cur.toList.take (ls.length * E.sz) = E.flat ls
theorem Row.nil (E : Enc α) (w : World) (B : Nat) (e : TypeId) : Row E w B e (.slice none 0 0) [] := .inl ⟨rfl, rfl⟩
theorem Row.slice {E : Enc α} {w : World} {B : Nat} {e : TypeId} {v : Value} {ls : List α} (h : Row E w B e v ls) : ∃ p c, v = .slice p ls.length c := by
  rcases h with ⟨rfl, rfl⟩ | ⟨g, cap, cur, rfl, _⟩
  · exact ⟨_, _, rfl⟩
  · exact ⟨_, _, rfl⟩
theorem Row.lt {E : Enc α} {w : World} {B : Nat} {e : TypeId} {v : Value} {ls : List α} (h : Row E w B e v ls) : ∀ k, v.ownBlock = some k → B ≤ k ∧ k < w.heap.size := by
  rcases h with ⟨rfl, rfl⟩ | ⟨g, cap, cur, rfl, hB, hg, _⟩
  · intro k hk; simp [Value.ownBlock] at hk
  · intro k hk
    simp [Value.ownBlock] at hk
    subst hk
    exact ⟨hB, (Array.getElem?_eq_some_iff.1 hg).1⟩
theorem Row.kept {E : Enc α} {w w' : World} {B : Nat} {e : TypeId} {v : Value} {ls : List α} {row : Option Nat} (h : Row E w B e v ls) (hg : w.grownBy w' row) (hne : v.ownBlock = none ∨ v.ownBlock ≠ row) : Row E w' B e v ls := by
  rcases h with h | ⟨g, cap, cur, rfl, hB, hh, h1, h2, h3, h4⟩
  · exact .inl h
  · refine .inr ⟨g, cap, cur, rfl, hB, ?_, h1, h2, h3, h4⟩
    rw [hg.block g (Array.getElem?_eq_some_iff.1 hh).1 ?_, hh]
    rcases hne with hne | hne
    · simp [Value.ownBlock] at hne
    · simpa [Value.ownBlock] using hne
theorem Row.still {E : Enc α} {w w' : World} {B : Nat} {e : TypeId} {v : Value} {ls : List α} (h : Row E w B e v ls) (hg : w.grownBy w' none) : Row E w' B e v ls := h.kept hg (by cases hv : v.ownBlock <;> simp)
theorem Row.up {E : Enc α} {w w' : World} {B : Nat} {e : TypeId} {v : Value} {ls : List α} (h : Row E w B e v ls) (hb : Below w.heap.size w w') : Row E w' B e v ls := h.still (grown_of_below hb none)
theorem Row.drew {E : Enc α} {w : World} {B : Nat} {e : TypeId} {v : Value} {ls : List α} (h : Row E w B e v ls) (q : Nat) : Row E (w.drewN q) B e v ls := h
theorem Row.at {E : Enc α} {w : World} {B : Nat} {e : TypeId} {v : Value} {ls : List α} (h : Row E w B e v ls) : At E (fun b => B ≤ b) w v ls := by
  rcases h with ⟨rfl, rfl⟩ | ⟨g, cap, cur, rfl, hB, hh, h1, h2, h3, h4⟩
  · exact .inl ⟨_, _, rfl, rfl⟩
  · by_cases hp : 0 < ls.length
    · refine .inr ⟨g, 0, cap, rfl, hB, (Array.getElem?_eq_some_iff.1 hh).1, hp, h1, h2, fun j u hj => ?_⟩
      have hlt : j < (E.flat ls).length := (List.getElem?_eq_some_iff.1 hj).1
      rw [E.flat_length] at hlt
      rw [← h4, List.getElem?_take_of_lt hlt, Array.getElem?_toList] at hj
      simp only [World.cell?, hh, Option.isSome_none, Bool.false_eq_true, if_false, Nat.zero_add]
      exact hj
    · have : ls = [] := List.eq_nil_of_length_eq_zero (by omega)
      subst this
      exact .inl ⟨_, _, rfl, rfl⟩
section
variable {P : Program} (w : World)
theorem Row.append_run (E : Enc α) (S : Nat → Prop) (B : Nat) (t ty e : TypeId) (i : TypeInfo) (z : Value) (bytes : Nat) (ht : P.underlying t = some (.slice e)) (hi : P.info? e = some i) (hz : i.zero = some z) (hsize : i.size = E.sz) (hby : i.bytes = bytes) (hzs : z.cells.size = E.sz)
    (v : Value) (ls : List α) (hrow : Row E w B e v ls) (x : Value) (xs : List α) (hx : At E S w x xs) (h63 : ls.length + xs.length ≤ maxLen) (hbytes : (ls.length + xs.length + (ls.length + xs.length) / 4 + 192) * bytes ≤ 281474976710656) (hbase : B ≤ w.heap.size) :
    ∃ v' w', (Builtin.append_ #[t, t] ty #[v, x]).run P w = .ok v' w' ∧ Row E w' B e v' (ls ++ xs) ∧ w.grownBy w' v.ownBlock ∧ (v'.ownBlock = v.ownBlock ∨ ∀ j, v'.ownBlock = some j → w.heap.size ≤ j) := by
  have hs : Src P i.size t x xs.length (E.flat xs) w := by rw [hsize]; exact hx.src ht
  have hl := E.flat_length xs
  have hll := E.flat_length ls
  have hlen : (E.flat (ls ++ xs)).length = (ls.length + xs.length) * E.sz := by rw [E.flat_length]; simp
  have hsmall : ls.length + xs.length ≤ 9223372036854775807 := by simp only [maxLen] at h63; omega
  have hmul : (ls.length + xs.length) * E.sz = ls.length * E.sz + xs.length * E.sz := Nat.add_mul _ _ _
  subst hby
  have grown : ∀ (old : Nat), old < ls.length + xs.length → ∀ (row : Option Nat),
      Row E (w.drew.alloc (.cells ((E.flat ls ++ E.flat xs).toArray ++ Builtin.zeroCells z.cells (grownCap w (ls.length + xs.length) old e - (ls.length + xs.length))) e)) B e
        (.slice (some ⟨w.heap.size, 0, none⟩) (ls.length + xs.length) (grownCap w (ls.length + xs.length) old e)) (ls ++ xs) ∧
      w.grownBy (w.drew.alloc (.cells ((E.flat ls ++ E.flat xs).toArray ++ Builtin.zeroCells z.cells (grownCap w (ls.length + xs.length) old e - (ls.length + xs.length))) e)) row := by
    intro old ho row
    have hge := grownCap_ge w (ls.length + xs.length) old e
    have hcm : grownCap w (ls.length + xs.length) old e ≤ maxLen := grownCap_le_maxLen w (ls.length + xs.length) old e h63
    refine ⟨.inr ⟨w.heap.size, _, _, by simp, hbase, heap_alloc_new w.drew _, by simpa using hge, hcm, ?_, ?_⟩, ⟨rfl, rfl, rfl, by simp, fun k hk _ => Below.heap_alloc w.drew _ k hk⟩⟩
    · simp only [Array.size_append, List.size_toArray, List.length_append, size_zeroCells, hzs, hl, hll]
      generalize grownCap w (ls.length + xs.length) old e = G at hge ⊢
      rw [← Nat.add_mul, ← Nat.add_mul]
      exact Nat.mul_le_mul_right _ (by omega)
    · simp only [Array.toList_append]
      rw [E.flat_append, show (ls ++ xs).length * E.sz = (E.flat ls ++ E.flat xs).length from by simp only [List.length_append, hl, hll]; exact hmul]
      exact List.take_left
  rcases hrow with ⟨rfl, rfl⟩ | ⟨g, cap, cur, rfl, hB, hg, h1, h2, h3, h4⟩
  · by_cases hm : xs.length = 0
    · have hxs : xs = [] := List.eq_nil_of_length_eq_zero hm
      subst hxs
      refine ⟨.slice none 0 0, w, ?_, Row.nil E w B e, grown_refl _ _, .inl rfl⟩
      rcases hs.kind with ⟨e', hk⟩ | hk
      · have hsl := hs.len
        have hsc := hs.cells
        simp only [List.length_nil] at hsl hsc
        simp [Builtin.append_, run_underlying ht, sizeOf, typeInfo, hi, hsl, hsc, Enc.flat]
      · rw [ht] at hk; cases hk
    · have hr := run_append_grow_src (P := P) w t t ty e i z ht hi hz none 0 0 [] (run_firstCells_none w.drew _ _ _ _) x xs.length (E.flat xs) hs (by omega) (by omega) (growslice_fits_wide (by omega) (by simpa using hbytes))
      have hgr := grown 0 (by simp; omega) (Value.ownBlock (.slice none 0 0))
      simp only [List.length_nil, Nat.zero_add, Enc.flat, List.flatMap_nil, List.nil_append] at hgr hr ⊢
      exact ⟨_, _, hr, hgr.1, hgr.2, .inr (fun j hj => by simp [Value.ownBlock] at hj; omega)⟩
  · by_cases hroom : ls.length + xs.length ≤ cap
    · have hmc : (ls.length + xs.length) * E.sz ≤ cap * E.sz := Nat.mul_le_mul_right _ hroom
      have hfit : 0 + ls.length * i.size + (E.flat xs).length ≤ cur.size := by rw [hl, hsize]; omega
      have hst := run_storeCells_at P g (0 + ls.length * i.size) e (E.flat xs) 0 cur w hg (by simpa using hfit) hs.one
      simp only [Nat.add_zero] at hst
      have hr : (Builtin.append_ #[t, t] ty #[.slice (some ⟨g, 0, none⟩) ls.length cap, x]).run P w = .ok (.slice (some ⟨g, 0, none⟩) (ls.length + xs.length) cap) (w.setRow g (cur.toList.take (0 + ls.length * i.size) ++ E.flat xs ++ cur.toList.drop (0 + ls.length * i.size + (E.flat xs).length)).toArray) := by
        simp only [Nat.zero_add] at hst ⊢
        simp [Builtin.append_, run_underlying ht, sizeOf, typeInfo, hi, hs.len, hroom, hs.cells, Addr.add_lit, hst]
      refine ⟨_, _, hr, .inr ⟨g, cap, _, by simp, hB, setRow_heap w g cur _ e _ hg, by simpa using hroom, h2, ?_, ?_⟩, ⟨rfl, rfl, rfl, by simp, fun k _ hk => setRow_other w g k _ (fun e => hk (by simp [Value.ownBlock, e]))⟩, .inl rfl⟩
      · simp only [List.size_toArray, List.length_append, List.length_take, List.length_drop, Array.length_toList]
        omega
      · rw [hsize, List.append_assoc, Nat.zero_add, h4, E.flat_append, ← List.append_assoc, show (ls ++ xs).length * E.sz = (E.flat ls ++ E.flat xs).length from by simp only [List.length_append, hl, hll]; exact hmul]
        exact List.take_left
    · have hi2 := (show Row E w B e (.slice (some ⟨g, 0, none⟩) ls.length cap) ls from .inr ⟨g, cap, cur, rfl, hB, hg, h1, h2, h3, h4⟩).at
      have holds : ∀ j u, (E.flat ls)[j]? = some u → w.cell? ((⟨g, 0, none⟩ : Addr).add j) = some u := by
        rcases hi2 with ⟨ao, c, he, h0⟩ | ⟨b, o, c, he, _, _, _, _, _, hx'⟩
        · subst h0
          intro j u hj
          simp [Enc.flat] at hj
        · simp only [Value.slice.injEq, Option.some.injEq, Addr.mk.injEq, and_true, true_and] at he
          obtain ⟨⟨rfl, rfl⟩, rfl⟩ := he
          intro j u hj
          rw [WideShapes.add_plain]
          exact hx' j u hj
      have hr := run_append_grow_src (P := P) w t t ty e i z ht hi hz (some ⟨g, 0, none⟩) ls.length cap (E.flat ls) (run_firstCells_some w.drew _ _ _ _ _ (E.flat ls) (by rw [hsize]; exact hll) (by simpa using holds)) x xs.length (E.flat xs) hs (by omega) (by omega) (growslice_fits_wide (by omega) hbytes)
      have hgr := grown cap (by omega) (Value.ownBlock (.slice (some ⟨g, 0, none⟩) ls.length cap))
      exact ⟨_, _, hr, hgr.1, hgr.2, .inr (fun j hj => by simp [Value.ownBlock] at hj; omega)⟩

theorem wpList_row {ops : Array Oper} {rest : List Oper} {o : Oper} {a : Act} {Q : Exit → Act → World → Prop} (hgd : o.guard = none) (s x : Operand) (t : TypeId)
    (ho : o.op = .call { callee := .builtin .append, args := #[s, x], argTypes := #[t, t] }) (E : Enc α) (S : Nat → Prop)
    (B : Nat) (e : TypeId) (i : TypeInfo) (z : Value) (bytes : Nat) (ht : P.underlying t = some (.slice e)) (hi : P.info? e = some i) (hz : i.zero = some z) (hsize : i.size = E.sz) (hby : i.bytes = bytes) (hzs : z.cells.size = E.sz)
    (v : Value) (ls : List α) (hv : a.eval s = v) (hrow : Row E w B e v ls) (xv : Value) (xs : List α) (hxv : a.eval x = xv) (hx : At E S w xv xs) (h63 : ls.length + xs.length ≤ maxLen) (hbytes : (ls.length + xs.length + (ls.length + xs.length) / 4 + 192) * bytes ≤ 281474976710656) (hbase : B ≤ w.heap.size)
    (h : ∀ v' w', Row E w' B e v' (ls ++ xs) → w.grownBy w' v.ownBlock → (v'.ownBlock = v.ownBlock ∨ ∀ j, v'.ownBlock = some j → w.heap.size ≤ j) → wpList P ops Q rest (a.put o.dst v') w') : wpList P ops Q (o :: rest) a w :=
  wpList_plain hgd fun _ hK => by
    obtain ⟨v', w', hr, h2, h3, h4⟩ := Row.append_run (P := P) w E S B t o.type e i z bytes ht hi hz hsize hby hzs v ls hrow xv xs hx h63 hbytes hbase
    unfold Oper.wp execOp
    simp only [ho, resolve, invoke, builtin, Sem.run_bind, Sem.run_pure, Result.andThen_ok, List.map_toArray, List.map_cons, List.map_nil, hv, hxv, hr]
    exact hK _ _ (h v' w' h2 h3 h4)
end
end Go.Proofs.YtlmoibicepppmaaDoor
