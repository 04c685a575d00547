/-
  Texts in a row of the program's own memory, from some place of it on: append, all but the first.
-/
import Derived.Test.YtocainggkdmojaaIOpen
import Derived.Deep.DeepAppendWide
namespace Go.Proofs.Ytocainggkdmojaa
open Go.Conc Go.RowKit Go.ChangeShapes Go.WideShapes Go.ChangeAt Go.Deep
abbrev sc (l : List ByteArray) : List Value := l.map Value.string
theorem flat_eq (l : List ByteArray) : ES.flat l = sc l := by
  induction l with
  | nil => rfl
  | cons x l ih =>
    show [Value.string x] ++ ES.flat l = _
    rw [ih]
    rfl
def Ro (w : World) (B : Nat) (v : Value) (ls : List ByteArray) : Prop :=
  (v = .slice none 0 0 ∧ ls = []) ∨
  ∃ g off cap cur, v = .slice (some ⟨g, off, none⟩) ls.length cap ∧ B ≤ g ∧ w.heap[g]? = some (.cells cur 9 (0, 0)) ∧ ls.length ≤ cap ∧ cap ≤ maxLen ∧ off + cap ≤ cur.size ∧ (cur.toList.drop off).take ls.length = sc ls
theorem Ro.nil (w : World) (B : Nat) : Ro w B (.slice none 0 0) [] := .inl ⟨rfl, rfl⟩
theorem Ro.slice {w : World} {B : Nat} {v : Value} {ls : List ByteArray} (h : Ro w B v ls) : ∃ p c, v = .slice p ls.length c := by
  rcases h with ⟨rfl, rfl⟩ | ⟨g, off, cap, cur, rfl, _⟩
  · exact ⟨_, _, rfl⟩
  · exact ⟨_, _, rfl⟩
theorem Ro.lt {w : World} {B : Nat} {v : Value} {ls : List ByteArray} (h : Ro w B v ls) : ∀ k, v.ownBlock = some k → B ≤ k ∧ k < w.heap.size := by
  rcases h with ⟨rfl, rfl⟩ | ⟨g, off, cap, cur, rfl, hB, hg, _⟩
  · intro k hk; simp [Value.ownBlock] at hk
  · intro k hk
    simp [Value.ownBlock] at hk
    subst hk
    exact ⟨hB, (Array.getElem?_eq_some_iff.1 hg).1⟩
theorem Ro.ne {w : World} {B : Nat} {v : Value} {ls : List ByteArray} (h : Ro w B v ls) {k : Nat} {o : Obj} (hk : w.heap[k]? = some o) (ho : ∀ cs z, o ≠ .cells cs 9 z) : v.ownBlock ≠ some k := by
  rcases h with ⟨rfl, rfl⟩ | ⟨g, off, cap, cur, rfl, hB, hg, _⟩
  · simp [Value.ownBlock]
  · intro e
    simp only [Value.ownBlock, Option.some.injEq] at e
    subst e
    rw [hg] at hk
    exact ho _ _ (Option.some.inj hk).symm
theorem Ro.kept {w w' : World} {B : Nat} {v : Value} {ls : List ByteArray} (h : Ro w B v ls) (hb : ∀ k, v.ownBlock = some k → w'.heap[k]? = w.heap[k]?) : Ro w' B v ls := by
  rcases h with h | ⟨g, off, cap, cur, rfl, hB, hh, h1⟩
  · exact .inl h
  · exact .inr ⟨g, off, cap, cur, rfl, hB, (hb g rfl).trans hh, h1⟩
theorem Ro.grown {w w' : World} {B : Nat} {v : Value} {ls : List ByteArray} {row : Option Nat} (h : Ro w B v ls) (hg : w.grownBy w' row) (hne : v.ownBlock = none ∨ v.ownBlock ≠ row) : Ro w' B v ls :=
  h.kept fun k hk => hg.block k (h.lt k hk).2 (by rcases hne with e | e <;> rw [hk] at e <;> first | cases e | exact e)
theorem Ro.up {w w' : World} {B : Nat} {v : Value} {ls : List ByteArray} (h : Ro w B v ls) (hb : Below w.heap.size w w') : Ro w' B v ls := h.kept fun k hk => hb.block k (h.lt k hk).2
theorem Ro.oth {w w' : World} {B cu cn room n : Nat} {cl : Bool} {U N : List ByteArray} {v : Value} {ls : List ByteArray} (h : Ro w n v ls) (hi : In w B cu cn room cl U N) (ho : Oth B cu cn w w') : Ro w' n v ls := by
  obtain ⟨s1, r1, e1⟩ := hi.u
  obtain ⟨s2, r2, e2⟩ := hi.n
  refine h.kept fun k hk => ho.block k (h.lt k hk).2 ?_ ?_ ?_
  · rintro rfl; exact h.ne hi.bx (fun _ _ e => by simp at e) hk
  · rintro rfl; exact h.ne e1 (fun _ _ e => by simp at e) hk
  · rintro rfl; exact h.ne e2 (fun _ _ e => by simp at e) hk
theorem In.ro {w w' : World} {B cu cn room n : Nat} {cl : Bool} {U N : List ByteArray} {v : Value} {ls : List ByteArray} (h : In w B cu cn room cl U N) (hr : Ro w n v ls) (hg : w.grownBy w' v.ownBlock) : In w' B cu cn room cl U N := by
  obtain ⟨s1, r1, e1⟩ := h.u
  obtain ⟨s2, r2, e2⟩ := h.n
  exact h.up (hg.block _ (Array.getElem?_eq_some_iff.1 h.bx).1 (hr.ne h.bx (fun _ _ e => by simp at e)).symm) (hg.block _ (Array.getElem?_eq_some_iff.1 e1).1 (hr.ne e1 (fun _ _ e => by simp at e)).symm) (hg.block _ (Array.getElem?_eq_some_iff.1 e2).1 (hr.ne e2 (fun _ _ e => by simp at e)).symm)
/-- Each of its cells. -/
theorem Ro.cell {w : World} {B : Nat} {v : Value} {ls : List ByteArray} (h : Ro w B v ls) {i : Nat} {x : ByteArray} (hi : ls[i]? = some x) : ∃ g off cap, v = .slice (some ⟨g, off, none⟩) ls.length cap ∧ g < w.heap.size ∧ w.cell? ⟨g, off + i, none⟩ = some (.string x) := by
  rcases h with ⟨rfl, rfl⟩ | ⟨g, off, cap, cur, rfl, hB, hh, h1, h2, h3, h4⟩
  · simp at hi
  · refine ⟨g, off, cap, rfl, (Array.getElem?_eq_some_iff.1 hh).1, ?_⟩
    have hlt : i < ls.length := (List.getElem?_eq_some_iff.1 hi).1
    have hx : (sc ls)[i]? = some (.string x) := by simp [sc, hi]
    rw [← h4, List.getElem?_take_of_lt hlt, List.getElem?_drop, Array.getElem?_toList] at hx
    simp only [World.cell?, hh, Option.isSome_none, Bool.false_eq_true, if_false]
    exact hx
theorem Ro.at {w : World} {B : Nat} {v : Value} {ls : List ByteArray} (h : Ro w B v ls) : AtW ES w v ls := by
  have hc := @Ro.cell w B v ls h
  rcases h with ⟨rfl, rfl⟩ | ⟨g, off, cap, cur, rfl, hB, hh, h1, h2, h3, h4⟩
  · exact .inl ⟨_, _, rfl, rfl⟩
  · by_cases hp : 0 < ls.length
    · refine .inr ⟨g, off, cap, rfl, trivial, (Array.getElem?_eq_some_iff.1 hh).1, hp, h1, h2, fun j u hj => ?_⟩
      rw [flat_eq] at hj
      simp only [sc, List.getElem?_map, Option.map_eq_some_iff] at hj
      obtain ⟨x, hx, rfl⟩ := hj
      obtain ⟨g', off', cap', e, -, hq⟩ := hc hx
      simp only [Value.slice.injEq, Option.some.injEq, Addr.mk.injEq, and_true, true_and] at e
      obtain ⟨⟨rfl, rfl⟩, -⟩ := e
      exact hq
    · obtain rfl : ls = [] := List.eq_nil_of_length_eq_zero (by omega)
      exact .inl ⟨_, _, rfl, rfl⟩
/-- All but the first. -/
theorem Ro.tail {w : World} {B : Nat} {x : ByteArray} {ls : List ByteArray} {g off n cap : Nat} (h : Ro w B (.slice (some ⟨g, off, none⟩) n cap) (x :: ls)) : n = ls.length + 1 ∧ 1 ≤ cap ∧ n ≤ cap ∧ Ro w B (.slice (some ⟨g, off + 1, none⟩) ls.length (cap - 1)) ls := by
  rcases h with ⟨h, -⟩ | ⟨g', off', cap', cur, e, hB, hh, h1, h2, h3, h4⟩
  · cases h
  · simp only [Value.slice.injEq, Option.some.injEq, Addr.mk.injEq, and_true, List.length_cons] at e
    obtain ⟨⟨rfl, rfl⟩, rfl, rfl⟩ := e
    rw [List.length_cons] at h1
    refine ⟨rfl, by omega, h1, .inr ⟨g, off + 1, cap - 1, cur, rfl, hB, hh, by omega, by omega, by omega, ?_⟩⟩
    have : (cur.toList.drop (off + 1)).take ls.length = ((cur.toList.drop off).take (ls.length + 1)).drop 1 := by
      rw [List.drop_take, List.drop_drop]
      simp
    rw [this]
    rw [List.length_cons] at h4
    rw [h4]
    rfl
section
variable {P : Program} (w : World)
theorem Ro.append_run (B : Nat) (t ty : TypeId) (i : TypeInfo) (z : Value) (bytes : Nat) (ht : P.underlying t = some (.slice 9)) (hi : P.info? 9 = some i) (hz : i.zero = some z) (hsize : i.size = 1) (hby : i.bytes = bytes) (hzs : z.cells.size = 1)
    (v : Value) (ls : List ByteArray) (hrow : Ro w B v ls) (x : Value) (xs : List ByteArray) (hx : AtW ES w x xs) (hne : 0 < xs.length) (h63 : ls.length + xs.length ≤ maxLen) (hbytes : (ls.length + xs.length + (ls.length + xs.length) / 4 + 192) * bytes ≤ 281474976710656) (hbase : B ≤ w.heap.size) :
    ∃ v' w', (Builtin.append_ #[t, t] ty #[v, x]).run P w = .ok v' w' ∧ Ro w' B v' (ls ++ xs) ∧ w.grownBy w' v.ownBlock ∧ (v'.ownBlock = v.ownBlock ∨ ∀ j, v'.ownBlock = some j → w.heap.size ≤ j) := by
  have hs : Src P i.size t x xs.length (sc xs) w := by rw [hsize, ← flat_eq]; exact hx.src ht
  have hl : (sc xs).length = xs.length := by simp [sc]
  have hll : (sc ls).length = ls.length := by simp [sc]
  have hsmall : ls.length + xs.length ≤ 9223372036854775807 := by simp only [maxLen] at h63; omega
  subst hby
  have grown : ∀ (old : Nat), old < ls.length + xs.length → ∀ (row : Option Nat),
      Ro (w.drew.alloc (.cells ((sc ls ++ sc xs).toArray ++ Builtin.zeroCells z.cells (grownCap w (ls.length + xs.length) old 9 - (ls.length + xs.length))) 9)) B
        (.slice (some ⟨w.heap.size, 0, none⟩) (ls.length + xs.length) (grownCap w (ls.length + xs.length) old 9)) (ls ++ xs) ∧
      w.grownBy (w.drew.alloc (.cells ((sc ls ++ sc xs).toArray ++ Builtin.zeroCells z.cells (grownCap w (ls.length + xs.length) old 9 - (ls.length + xs.length))) 9)) row := by
    intro old ho row
    have hge := grownCap_ge w (ls.length + xs.length) old 9
    have hcm : grownCap w (ls.length + xs.length) old 9 ≤ maxLen := grownCap_le_maxLen w (ls.length + xs.length) old 9 h63
    refine ⟨.inr ⟨w.heap.size, 0, _, _, by simp, hbase, heap_alloc_new w.drew _, by simpa using hge, hcm, ?_, ?_⟩, ⟨rfl, rfl, rfl, by simp, fun k hk _ => Below.heap_alloc w.drew _ k hk⟩⟩
    · simp only [Array.size_append, List.size_toArray, List.length_append, size_zeroCells, hzs, hl, hll]
      omega
    · simp only [Array.toList_append, List.drop_zero]
      rw [show (ls ++ xs).length = (sc ls ++ sc xs).length from by simp [sc], show sc (ls ++ xs) = sc ls ++ sc xs from by simp [sc]]
      exact List.take_left
  rcases hrow with ⟨rfl, rfl⟩ | ⟨g, off, cap, cur, rfl, hB, hg, h1, h2, h3, h4⟩
  · have hr := run_append_grow_src (P := P) w t t ty 9 i z ht hi hz none 0 0 [] (run_firstCells_none w.drew _ _ _ _) x xs.length (sc xs) hs (by omega) (by omega) (growslice_fits_wide (by omega) (by simpa using hbytes))
    have hgr := grown 0 (by simp; omega) (Value.ownBlock (.slice none 0 0))
    simp only [List.length_nil, Nat.zero_add, sc, List.map_nil, List.nil_append] at hgr hr ⊢
    exact ⟨_, _, hr, hgr.1, hgr.2, .inr (fun j hj => by simp [Value.ownBlock] at hj; omega)⟩
  · by_cases hroom : ls.length + xs.length ≤ cap
    · have hfit : off + ls.length * i.size + (sc xs).length ≤ cur.size := by rw [hl, hsize]; omega
      have hst := run_storeCells_at P g (off + ls.length * i.size) 9 (sc xs) 0 cur w hg (by simpa using hfit) hs.one
      simp only [Nat.add_zero] at hst
      have hr : (Builtin.append_ #[t, t] ty #[.slice (some ⟨g, off, none⟩) ls.length cap, x]).run P w = .ok (.slice (some ⟨g, off, none⟩) (ls.length + xs.length) cap) (w.setRow g (cur.toList.take (off + ls.length * i.size) ++ sc xs ++ cur.toList.drop (off + ls.length * i.size + (sc xs).length)).toArray) := by
        simp [Builtin.append_, run_underlying ht, sizeOf, typeInfo, hi, hs.len, hroom, hs.cells, Addr.add_lit, hst]
      refine ⟨_, _, hr, .inr ⟨g, off, cap, _, by simp, hB, setRow_heap w g cur _ 9 _ hg, by simpa using hroom, h2, ?_, ?_⟩, ⟨rfl, rfl, rfl, by simp, fun k _ hk => setRow_other w g k _ (fun e => hk (by simp [Value.ownBlock, e]))⟩, .inl rfl⟩
      · simp only [List.size_toArray, List.length_append, List.length_take, List.length_drop, Array.length_toList]
        omega
      · rw [hsize, Nat.mul_one, List.append_assoc]
        have e1 : cur.toList.take (off + ls.length) = cur.toList.take off ++ (cur.toList.drop off).take ls.length := by rw [List.take_add]
        have hcl : (cur.toList.take off).length = off := by simp only [List.length_take, Array.length_toList]; omega
        rw [e1, h4, List.append_assoc, List.drop_append_of_le_length (by omega), List.drop_of_length_le (by omega), List.nil_append, ← List.append_assoc, show (ls ++ xs).length = (sc ls ++ sc xs).length from by simp [sc], show sc (ls ++ xs) = sc ls ++ sc xs from by simp [sc]]
        exact List.take_left
    · have hi2 := (show Ro w B (.slice (some ⟨g, off, none⟩) ls.length cap) ls from .inr ⟨g, off, cap, cur, rfl, hB, hg, h1, h2, h3, h4⟩)
      have holds : ∀ j u, (sc ls)[j]? = some u → w.cell? ((⟨g, off, none⟩ : Addr).add j) = some u := fun j u hj => by
        simp only [sc, List.getElem?_map, Option.map_eq_some_iff] at hj
        obtain ⟨y, hy, rfl⟩ := hj
        obtain ⟨g', off', cap', e, -, hq⟩ := hi2.cell hy
        simp only [Value.slice.injEq, Option.some.injEq, Addr.mk.injEq, and_true, true_and] at e
        obtain ⟨⟨rfl, rfl⟩, -⟩ := e
        rw [WideShapes.add_plain]
        exact hq
      have hr := run_append_grow_src (P := P) w t t ty 9 i z ht hi hz (some ⟨g, off, none⟩) ls.length cap (sc ls) (run_firstCells_some w.drew _ _ _ _ _ (sc ls) (by rw [hsize, Nat.mul_one]; exact hll) (by simpa using holds)) x xs.length (sc xs) hs (by omega) (by omega) (growslice_fits_wide (by omega) hbytes)
      have hgr := grown cap (by omega) (Value.ownBlock (.slice (some ⟨g, off, none⟩) ls.length cap))
      exact ⟨_, _, hr, hgr.1, hgr.2, .inr (fun j hj => by simp [Value.ownBlock] at hj; omega)⟩
theorem wpList_ro {ops : Array Oper} {rest : List Oper} {o : Oper} {a : Act} {Q : Exit → Act → World → Prop} (hgd : o.guard = none) (s x : Operand) (t : TypeId)
    (ho : o.op = .call { callee := .builtin .append, args := #[s, x], argTypes := #[t, t] })
    (B : Nat) (i : TypeInfo) (z : Value) (bytes : Nat) (ht : P.underlying t = some (.slice 9)) (hi : P.info? 9 = some i) (hz : i.zero = some z) (hsize : i.size = 1) (hby : i.bytes = bytes) (hzs : z.cells.size = 1)
    (v : Value) (ls : List ByteArray) (hv : a.eval s = v) (hrow : Ro w B v ls) (xv : Value) (xs : List ByteArray) (hxv : a.eval x = xv) (hx : AtW ES w xv xs) (hne : 0 < xs.length) (h63 : ls.length + xs.length ≤ maxLen) (hbytes : (ls.length + xs.length + (ls.length + xs.length) / 4 + 192) * bytes ≤ 281474976710656) (hbase : B ≤ w.heap.size)
    (h : ∀ v' w', Ro w' B v' (ls ++ xs) → w.grownBy w' v.ownBlock → (v'.ownBlock = v.ownBlock ∨ ∀ j, v'.ownBlock = some j → w.heap.size ≤ j) → wpList P ops Q rest (a.put o.dst v') w') : wpList P ops Q (o :: rest) a w :=
  wpList_plain hgd fun _ hK => by
    obtain ⟨v', w', hr, h2, h3, h4⟩ := Ro.append_run (P := P) w B t o.type i z bytes ht hi hz hsize hby hzs v ls hrow xv xs hx hne h63 hbytes hbase
    unfold Oper.wp execOp
    simp only [ho, resolve, invoke, builtin, Sem.run_bind, Sem.run_pure, Result.andThen_ok, List.map_toArray, List.map_cons, List.map_nil, hv, hxv, hr]
    exact hK _ _ (h v' w' h2 h3 h4)
end
/-- Two rows, apart. -/
structure Tw (w : World) (B : Nat) (a b : Value) (U N : List ByteArray) : Prop where
  ru : Ro w B a U
  rn : Ro w B b N
  ap : ∀ k, a.ownBlock = some k → b.ownBlock ≠ some k
theorem Tw.nil (w : World) (B : Nat) : Tw w B (.slice none 0 0) (.slice none 0 0) [] [] := ⟨Ro.nil _ _, Ro.nil _ _, fun k h => by simp [Value.ownBlock] at h⟩
theorem Tw.swap {w : World} {B : Nat} {a b : Value} {U N : List ByteArray} (h : Tw w B a b U N) : Tw w B b a N U := ⟨h.rn, h.ru, fun k hk e => h.ap k e hk⟩
theorem Tw.app {w w' : World} {B : Nat} {a b a' : Value} {U N U' : List ByteArray} (h : Tw w B a b U N) (hr : Ro w' B a' U') (hg : w.grownBy w' a.ownBlock) (hl : a'.ownBlock = a.ownBlock ∨ ∀ j, a'.ownBlock = some j → w.heap.size ≤ j) : Tw w' B a' b U' N := by
  refine ⟨hr, h.rn.kept fun k hk => hg.block k (h.rn.lt k hk).2 (fun e => h.ap k e.symm hk), fun k hk e => ?_⟩
  rcases hl with e1 | e1
  · exact h.ap k (by rw [← e1]; exact hk) e
  · have h1 := e1 k hk
    have h2 := (h.rn.lt k e).2
    omega
theorem Tw.oth {w w' : World} {B cu cn room n : Nat} {cl : Bool} {X Y U N : List ByteArray} {a b : Value} (h : Tw w n a b U N) (hi : In w B cu cn room cl X Y) (ho : Oth B cu cn w w') : Tw w' n a b U N := ⟨h.ru.oth hi ho, h.rn.oth hi ho, h.ap⟩
theorem Tw.up {w w' : World} {n : Nat} {U N : List ByteArray} {a b : Value} (h : Tw w n a b U N) (hb : Below w.heap.size w w') : Tw w' n a b U N := ⟨h.ru.up hb, h.rn.up hb, h.ap⟩
theorem Ro.tail1 {w : World} {B : Nat} {x : ByteArray} {ls : List ByteArray} {g off n cap : Nat} (h : Ro w B (.slice (some ⟨g, off, none⟩) n cap) (x :: ls)) : n = ls.length + 1 ∧ 1 ≤ cap ∧ n ≤ cap ∧ Ro w B (.slice (if cap = 1 then some ⟨g, off, none⟩ else some ⟨g, off + 1, none⟩) ls.length (cap - 1)) ls := by
  obtain ⟨h1, h2, h3, h4⟩ := h.tail
  refine ⟨h1, h2, h3, ?_⟩
  by_cases hc : cap = 1
  · subst hc
    obtain rfl : ls = [] := List.eq_nil_of_length_eq_zero (by omega)
    rw [if_pos rfl]
    rcases h with ⟨h, -⟩ | ⟨g', off', cap', cur, e, hB, hh, -, -, h5, -⟩
    · cases h
    · simp only [Value.slice.injEq, Option.some.injEq, Addr.mk.injEq, and_true] at e
      obtain ⟨⟨rfl, rfl⟩, -, rfl⟩ := e
      exact .inr ⟨g, off, 0, cur, rfl, hB, hh, Nat.le_refl _, by decide, by omega, by simp⟩
  · rw [if_neg hc]
    exact h4
theorem own_if {c g o o' n m : Nat} : (Value.slice (if c = 1 then some ⟨g, o, none⟩ else some ⟨g, o', none⟩) n m).ownBlock = some g := by
  split <;> rfl
theorem Tw.tail {w : World} {n g off k cap : Nat} {x : ByteArray} {U N : List ByteArray} {b : Value} (h : Tw w n (.slice (some ⟨g, off, none⟩) k cap) b (x :: U) N) : k = U.length + 1 ∧ 1 ≤ cap ∧ k ≤ cap ∧ Tw w n (.slice (if cap = 1 then some ⟨g, off, none⟩ else some ⟨g, off + 1, none⟩) U.length (cap - 1)) b U N := by
  obtain ⟨h1, h2, h3, h4⟩ := h.ru.tail1
  exact ⟨h1, h2, h3, h4, h.rn, fun j hj => h.ap j (by rw [own_if] at hj; exact hj)⟩
theorem oth_ro {w0 w w' : World} {B cu cn : Nat} {v : Value} {ls : List ByteArray} (hr : Ro w w0.heap.size v ls) (h0 : Oth B cu cn w0 w) (hg : w.grownBy w' v.ownBlock) : Oth B cu cn w0 w' := by
  refine ⟨hg.os.trans h0.os, hg.tape.trans h0.tape, hg.output.trans h0.output, Nat.le_trans h0.size hg.size, fun k hk a b c => (hg.block k (Nat.lt_of_lt_of_le hk h0.size) ?_).trans (h0.block k hk a b c)⟩
  intro e
  have := (hr.lt k e.symm).1
  omega
end Go.Proofs.Ytocainggkdmojaa
