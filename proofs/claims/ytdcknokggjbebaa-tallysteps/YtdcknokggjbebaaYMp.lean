/-
  A map whose keys are ints, whatever it holds: what its operations do.
-/
import Derived.Test.YtdcknokggjbebaaRow
import Derived.Test.YtdcknokggjbebaaRows
import Derived.Maps.RangeRun
import Derived.Laws.IdiomRangeMap
import Derived.Maps.Own
import Derived.Maps.OwnOps
import Derived.Maps.RangeWalk
import Derived.Deep.RegionHeld3
import Derived.RangeFuncOwn
import Derived.Deep.SlicePairs
namespace Go.Proofs.Ytdcknokggjbebaa
open Go.ChangeShapes Go.WideShapes Go.ChangeAt Go.RowKit Go.Deep
theorem check_int (w : World) (em : Bool) (x : Int) : (Instr.checkKey em 10000 3 (.int .i64 x)).run Try.prog w = .ok () w := by
  rw [show (10000 : Nat) = 9999 + 1 from rfl]
  unfold Instr.checkKey
  simp only [Sem.run_bind, run_underlying Try.underlying3, Result.andThen, Sem.run_pure]
/-- The map's rows: each has its key, a value, and was laid at its own time. -/
structure IM (w : World) (r : Nat) (M : List (Int × Value)) : Prop where
  out : ∃ es clock, w.heap[r]? = some (.map es clock) ∧ es.toList.map (fun e => (e.key, e.val)) = M.map (fun p => (.int .i64 p.1, p.2)) ∧ (es.toList.map (·.born)).Nodup ∧ ∀ b ∈ es.toList.map (·.born), b < clock
def ifind : List (Int × Value) → Int → Nat → Option (Nat × Value)
  | [], _, _ => none
  | p :: M, h, i => if h == p.1 then some (i, p.2) else ifind M h (i + 1)
def iset (M : List (Int × Value)) (h : Int) (v : Value) : List (Int × Value) := match ifind M h 0 with | some p => M.set p.1 (h, v) | none => M ++ [(h, v)]
def idel (M : List (Int × Value)) (h : Int) : List (Int × Value) := match ifind M h 0 with | some p => M.eraseIdx p.1 | none => M
theorem ifind_some : ∀ (M : List (Int × Value)) (h : Int) (i : Nat) (j : Nat) (v : Value), ifind M h i = some (j, v) → i ≤ j ∧ M[j - i]? = some (h, v)
  | [], _, _, _, _, e => by cases e
  | p :: M, h, i, j, v, e => by
    unfold ifind at e
    by_cases hp : (h == p.1) = true
    · rw [if_pos hp] at e
      cases e
      refine ⟨Nat.le_refl _, ?_⟩
      rw [Nat.sub_self, List.getElem?_cons_zero]
      have : h = p.1 := by simpa using hp
      rw [this]
    · rw [if_neg hp] at e
      obtain ⟨h1, h2⟩ := ifind_some M h (i + 1) j v e
      refine ⟨by omega, ?_⟩
      rw [show j - i = (j - (i + 1)) + 1 by omega, List.getElem?_cons_succ]
      exact h2
theorem ifind_none : ∀ (M : List (Int × Value)) (h : Int) (i : Nat), ifind M h i = none → ∀ p ∈ M, p.1 ≠ h
  | [], _, _, _, p, hp => by cases hp
  | q :: M, h, i, e, p, hp => by
    unfold ifind at e
    by_cases hq : (h == q.1) = true
    · rw [if_pos hq] at e
      cases e
    · rw [if_neg hq] at e
      rcases List.mem_cons.1 hp with rfl | hp
      · intro e2
        exact hq (by simp [e2])
      · exact ifind_none M h (i + 1) e p hp
theorem iset_keys {M : List (Int × Value)} (hn : (M.map (·.1)).Nodup) (h : Int) (v : Value) : ((iset M h v).map (·.1)).Nodup ∧ (∀ (g : Int) (u : Value), (g, u) ∈ iset M h v ↔ (g = h ∧ u = v) ∨ (g ≠ h ∧ (g, u) ∈ M)) := by
  unfold iset
  cases e : ifind M h 0 with
  | none =>
    have hno := ifind_none M h 0 e
    simp only
    constructor
    · rw [List.map_append, List.nodup_append]
      refine ⟨hn, by simp, fun a ha b hb => ?_⟩
      obtain ⟨p, hp, rfl⟩ := List.mem_map.1 ha
      simp at hb
      subst hb
      exact hno p hp
    · intro g u
      rw [List.mem_append, List.mem_singleton, Prod.mk.injEq]
      constructor
      · rintro (h1 | h1)
        · exact .inr ⟨hno _ h1, h1⟩
        · exact .inl h1
      · rintro (h1 | h1)
        · exact .inr h1
        · exact .inl h1.2
  | some q =>
    obtain ⟨j, u0⟩ := q
    obtain ⟨_, h2⟩ := ifind_some M h 0 j u0 e
    rw [Nat.sub_zero] at h2
    have hj := (List.getElem?_eq_some_iff.1 h2).1
    have he := (List.getElem?_eq_some_iff.1 h2).2
    simp only
    have hmap : (M.set j (h, v)).map (·.1) = M.map (·.1) := by
      rw [List.map_set]
      refine List.ext_getElem? fun k => ?_
      rw [List.getElem?_set]
      split
      · rename_i hjk
        subst hjk
        rw [List.getElem?_map, h2]
        simp [hj]
      · rfl
    refine ⟨by rw [hmap]; exact hn, fun g u => ?_⟩
    constructor
    · intro hm
      obtain ⟨k, hk⟩ := List.mem_iff_getElem?.1 hm
      rw [List.getElem?_set] at hk
      split at hk
      · (try rw [if_pos (by omega)] at hk)
        cases hk
        exact .inl ⟨rfl, rfl⟩
      · rename_i hne
        refine .inr ⟨fun eg => hne ?_, List.mem_of_getElem? hk⟩
        subst eg
        have h3 : (M.map (·.1))[j]? = (M.map (·.1))[k]? := by rw [List.getElem?_map, List.getElem?_map, h2, hk]; rfl
        exact (List.getElem?_inj (by rw [List.length_map]; exact hj) hn).1 h3
    · rintro (⟨rfl, rfl⟩ | ⟨hne, hm⟩)
      · exact List.mem_of_getElem? (i := j) (by rw [List.getElem?_set_self (by omega)])
      · obtain ⟨k, hk⟩ := List.mem_iff_getElem?.1 hm
        refine List.mem_of_getElem? (i := k) ?_
        rw [List.getElem?_set_ne (fun ejk => ?_)]
        · exact hk
        · subst ejk
          rw [h2] at hk
          cases hk
          exact hne rfl
theorem idel_keys {M : List (Int × Value)} (hn : (M.map (·.1)).Nodup) (h : Int) : ((idel M h).map (·.1)).Nodup ∧ (∀ (g : Int) (u : Value), (g, u) ∈ idel M h ↔ (g ≠ h ∧ (g, u) ∈ M)) := by
  unfold idel
  cases e : ifind M h 0 with
  | none =>
    have hno := ifind_none M h 0 e
    simp only
    exact ⟨hn, fun g u => ⟨fun hm => ⟨hno _ hm, hm⟩, fun hm => hm.2⟩⟩
  | some q =>
    obtain ⟨j, u0⟩ := q
    obtain ⟨_, h2⟩ := ifind_some M h 0 j u0 e
    rw [Nat.sub_zero] at h2
    simp only
    refine ⟨hn.sublist ((List.eraseIdx_sublist M j).map _), fun g u => ?_⟩
    rw [List.mem_eraseIdx_iff_getElem?]
    constructor
    · rintro ⟨k, hk, hm⟩
      refine ⟨fun eg => hk ?_, List.mem_of_getElem? hm⟩
      subst eg
      have h3 : (M.map (·.1))[k]? = (M.map (·.1))[j]? := by rw [List.getElem?_map, List.getElem?_map, h2, hm]; rfl
      exact (List.getElem?_inj (by rw [List.length_map]; exact (List.getElem?_eq_some_iff.1 hm).1) hn).1 h3
    · rintro ⟨hne, hm⟩
      obtain ⟨k, hk⟩ := List.mem_iff_getElem?.1 hm
      exact ⟨k, fun ek => by subst ek; rw [h2] at hk; cases hk; exact hne rfl, hk⟩
theorem run_now (w : World) (h : Int) : ∀ (es : List MapEntry) (M : List (Int × Value)) (i : Nat), es.map (fun e => (e.key, e.val)) = M.map (fun p => (.int .i64 p.1, p.2)) → Instr.findNow (.int .i64) (.int .i64 h) es i = some (ifind M h i)
  | [], [], i, _ => rfl
  | [], q :: M, i, he => by simp at he
  | e :: es, [], i, he => by simp at he
  | e :: es, q :: M, i, he => by
    simp only [List.map_cons, List.cons.injEq, Prod.mk.injEq] at he
    obtain ⟨⟨hk, hv⟩, hr⟩ := he
    unfold Instr.findNow ifind
    rw [hk, hv]
    have hs : Instr.sameNow (.int .i64) (.int .i64 h) (.int .i64 q.1) = some (h == q.1) := by simp [Instr.sameNow]
    rw [hs]
    by_cases hp : (h == q.1) = true
    · rw [hp]
      rfl
    · rw [Bool.not_eq_true] at hp
      rw [hp]
      simpa using run_now w h es M (i + 1) hr
theorem run_findInt (w : World) (h : Int) (es : List MapEntry) (M : List (Int × Value)) (he : es.map (fun e => (e.key, e.val)) = M.map (fun p => (.int .i64 p.1, p.2))) : (Instr.findKey 3 (.int .i64 h) es).run Try.prog w = .ok (ifind M h 0) w := by
  unfold Instr.findKey
  simp only [Sem.run_bind, run_underlying Try.underlying3, Result.andThen]
  rw [run_now w h es M 0 he]
  rfl
section
variable {mt et : TypeId} (hmt : Try.prog.underlying mt = some (.map 3 et))
include hmt
theorem look_in {w : World} {r : Nat} {M : List (Int × Value)} (hm : IM w r M) {h : Int} {j : Nat} {v : Value} (hf : ifind M h 0 = some (j, v)) (ok : Bool) : (Instr.lookup mt (.map (some r)) (.int .i64 h) ok).run Try.prog w = .ok (if ok then .tuple #[v, .bool true] else v) w := by
  obtain ⟨es, clock, hr, he, _, _⟩ := hm.out
  unfold Instr.lookup
  simp only [Sem.run_bind, run_underlying hmt, Result.andThen, run_getObj_map w r es clock hr, Sem.run_pure, check_int, run_findInt w h es.toList M he, hf]
theorem look_out {w : World} {r : Nat} {M : List (Int × Value)} (hm : IM w r M) {h : Int} {z : Value} (hz : (zeroValue et).run Try.prog w = .ok z w) (hf : ifind M h 0 = none) (ok : Bool) : (Instr.lookup mt (.map (some r)) (.int .i64 h) ok).run Try.prog w = .ok (if ok then .tuple #[z, .bool false] else z) w := by
  obtain ⟨es, clock, hr, he, _, _⟩ := hm.out
  unfold Instr.lookup
  simp only [Sem.run_bind, run_underlying hmt, Result.andThen, run_getObj_map w r es clock hr, Sem.run_pure, check_int, run_findInt w h es.toList M he, hf, hz]
omit hmt
theorem stays_int (w : World) (h : Int) : (Instr.keyThatStays (.int .i64 h) (.int .i64 h)).run Try.prog w = .ok (.int .i64 h) w := by
  unfold Instr.keyThatStays
  rw [if_pos (by simp [Instr.sameBits])]
  rfl
theorem run_setMap {w : World} {r : Nat} {es : Array MapEntry} {clock : Nat} (hr : w.heap[r]? = some (.map es clock)) (o : Obj) : (setObj r o).run Try.prog w = .ok () (w.putObj r o) := by
  simp [setObj, Sem.run, hr, World.putObj]
/-- A row's other fields. -/
theorem modify_map {β : Type} {es : Array MapEntry} {i : Nat} {e : MapEntry} (he : es[i]? = some e) (f : MapEntry → MapEntry) (g : MapEntry → β) : (es.modify i f).toList.map g = (es.toList.map g).set i (g (f e)) := by
  refine List.ext_getElem? fun k => ?_
  have hi : i < es.size := (Array.getElem?_eq_some_iff.1 he).1
  rw [List.getElem?_map, Array.getElem?_toList, Array.getElem?_modify, List.getElem?_set]
  by_cases hk : i = k
  · subst hk
    rw [if_pos rfl, if_pos rfl, he]
    simp [hi]
  · rw [if_neg hk, if_neg hk, List.getElem?_map, Array.getElem?_toList]
theorem set_same {β : Type} {l : List β} {i : Nat} {x : β} (h : l[i]? = some x) : l.set i x = l := by
  refine List.ext_getElem? fun k => ?_
  rw [List.getElem?_set]
  split
  · rename_i e
    subst e
    rw [h]
    simp [(List.getElem?_eq_some_iff.1 h).1]
  · rfl
theorem im_row {es : Array MapEntry} {M : List (Int × Value)} (he : es.toList.map (fun e => (e.key, e.val)) = M.map (fun p => (.int .i64 p.1, p.2))) {i : Nat} {h : Int} {v : Value} (hi : M[i]? = some (h, v)) : ∃ e, es[i]? = some e ∧ e.key = .int .i64 h ∧ e.val = v := by
  have h1 := congrArg (fun l => l[i]?) he
  simp only [List.getElem?_map, Array.getElem?_toList, hi, Option.map_some] at h1
  cases hx : es[i]? with
  | none => rw [hx] at h1; cases h1
  | some e =>
    rw [hx] at h1
    simp only [Option.map_some, Option.some.injEq, Prod.mk.injEq] at h1
    exact ⟨e, rfl, h1.1, h1.2⟩
include hmt
theorem run_upd {w : World} {r : Nat} {M : List (Int × Value)} (hm : IM w r M) (h : Int) (v : Value) :
    ∃ w', (Instr.mapUpdate mt (.map (some r)) (.int .i64 h) v).run Try.prog w = .ok () w' ∧ IM w' r (iset M h v) ∧ w.grownBy w' (some r) := by
  obtain ⟨es, clock, hr, he, hn, hb⟩ := hm.out
  have hlt := (Array.getElem?_eq_some_iff.1 hr).1
  unfold Instr.mapUpdate
  simp only [Sem.run_bind, run_underlying hmt, Result.andThen, run_getObj_map w r es clock hr, check_int, run_findInt w h es.toList M he]
  unfold iset
  cases hf : ifind M h 0 with
  | none =>
    simp only [run_setMap hr]
    refine ⟨_, rfl, ⟨_, _, World.putObj_heap_same hlt, ?_, ?_, ?_⟩, grownBy_putObj' _ _ _⟩
    · simp only [Array.toList_push, List.map_append, List.map_cons, List.map_nil, he]
    · simp only [Array.toList_push, List.map_append, List.map_cons, List.map_nil]
      rw [List.nodup_append]
      refine ⟨hn, by simp, fun a ha b hb' => ?_⟩
      simp at hb'
      have := hb a ha
      omega
    · simp only [Array.toList_push, List.map_append, List.map_cons, List.map_nil]
      intro b hb'
      rcases List.mem_append.1 hb' with hb' | hb'
      · have := hb b hb'
        omega
      · simp at hb'
        omega
  | some q =>
    obtain ⟨i, v0⟩ := q
    obtain ⟨_, h2⟩ := ifind_some M h 0 i v0 hf
    rw [Nat.sub_zero] at h2
    obtain ⟨e, hei, hek, hev⟩ := im_row he h2
    simp only [hei, Option.map_some, Option.getD_some, hek, Sem.run_bind, stays_int, Result.andThen, run_setMap hr]
    have hbn : (es.modify i fun e => { e with key := .int .i64 h, val := v }).toList.map (·.born) = es.toList.map (·.born) := by
      rw [modify_map hei]
      exact set_same (by rw [List.getElem?_map, Array.getElem?_toList, hei]; rfl)
    refine ⟨_, rfl, ⟨_, _, World.putObj_heap_same hlt, ?_, by rw [hbn]; exact hn, by rw [hbn]; exact hb⟩, grownBy_putObj' _ _ _⟩
    rw [modify_map hei, he, List.map_set]
omit hmt
theorem erase_map {β γ : Type} (g : β → γ) : ∀ (l : List β) (i : Nat), (l.map g).eraseIdx i = (l.eraseIdx i).map g
  | [], i => by simp
  | x :: l, 0 => by simp
  | x :: l, i + 1 => by simp [erase_map g l i]
include hmt
theorem run_del {w : World} {r : Nat} {M : List (Int × Value)} (hm : IM w r M) (h : Int) (a t : TypeId) :
    ∃ w', (Builtin.delete_ #[mt, a] t #[.map (some r), .int .i64 h]).run Try.prog w = .ok (.tuple #[]) w' ∧ IM w' r (idel M h) ∧ w.grownBy w' (some r) := by
  obtain ⟨es, clock, hr, he, hn, hb⟩ := hm.out
  have hlt := (Array.getElem?_eq_some_iff.1 hr).1
  unfold Builtin.delete_
  simp only [List.getElem?_toArray, List.getElem?_cons_zero, List.getElem?_cons_succ, Sem.run_bind, run_underlying hmt, Result.andThen, run_getObj_map w r es clock hr, check_int, run_findInt w h es.toList M he]
  unfold idel
  cases hf : ifind M h 0 with
  | none =>
    simp only [Sem.run_bind, run_setMap hr, Sem.run_pure, Result.andThen]
    exact ⟨_, rfl, ⟨_, _, World.putObj_heap_same hlt, he, hn, hb⟩, grownBy_putObj' _ _ _⟩
  | some q =>
    obtain ⟨i, v0⟩ := q
    obtain ⟨_, h2⟩ := ifind_some M h 0 i v0 hf
    rw [Nat.sub_zero] at h2
    obtain ⟨e, hei, hek, hev⟩ := im_row he h2
    have hl : ∀ {β : Type} (g : MapEntry → β), (es.eraseIdxIfInBounds i).toList.map g = (es.toList.map g).eraseIdx i := fun {β} g => by
      have hi : i < es.size := (Array.getElem?_eq_some_iff.1 hei).1
      rw [Array.eraseIdxIfInBounds_eq]
      simp [hi, erase_map]
    simp only [Sem.run_bind, run_setMap hr, Sem.run_pure, Result.andThen]
    refine ⟨_, rfl, ⟨_, _, World.putObj_heap_same hlt, ?_, ?_, ?_⟩, grownBy_putObj' _ _ _⟩
    · rw [hl, he, erase_map]
    · rw [hl]
      exact hn.sublist (List.eraseIdx_sublist _ _)
    · rw [hl]
      exact fun b hb' => hb b ((List.eraseIdx_sublist _ _).subset hb')
omit hmt
theorem IM.kept {w w' : World} {r : Nat} {M : List (Int × Value)} (h : IM w r M) (hk : w'.heap[r]? = w.heap[r]?) : IM w' r M := by
  obtain ⟨es, clock, hr, h1⟩ := h.out
  exact ⟨es, clock, hk.trans hr, h1⟩
theorem IM.lt {w : World} {r : Nat} {M : List (Int × Value)} (h : IM w r M) : r < w.heap.size := by
  obtain ⟨es, clock, hr, _⟩ := h.out
  exact (Array.getElem?_eq_some_iff.1 hr).1
theorem IM.new (w : World) : IM (w.alloc (.map #[] 0)) w.heap.size [] := ⟨#[], 0, World.alloc_heap_new w _, rfl, by simp, fun b hb => by simp at hb⟩
theorem IM.no_cell {w : World} {r : Nat} {M : List (Int × Value)} (h : IM w r M) {p : Addr} {v : Value} (hc : w.cell? p = some v) : p.block ≠ r := by
  obtain ⟨es, clock, hr, _⟩ := h.out
  rintro rfl
  unfold World.cell? at hc
  rw [hr] at hc
  cases hc
/-- A range over the map: the rows whose times are not among those seen are left. -/
structure IR (w : World) (r t : Nat) (M : List (Int × Value)) (es : Array MapEntry) (seen : Array Nat) : Prop where
  rows : es.toList.map (fun e => (e.key, e.val)) = M.map (fun p => (.int .i64 p.1, p.2))
  born : (es.toList.map (·.born)).Nodup
  it : ∃ clock, w.heap[r]? = some (.map es clock) ∧ w.heap[t]? = some (.mapIter (some r) clock seen clock) ∧ ∀ b ∈ es.toList.map (·.born), b < clock
/-- The rows that are left. -/
def leftM (es : Array MapEntry) (seen : Array Nat) : List MapEntry := es.toList.filter fun e => !seen.contains e.born
include hmt
theorem run_rng {w : World} {r : Nat} {M : List (Int × Value)} (hm : IM w r M) :
    ∃ es clock, (Instr.range mt (.map (some r))).run Try.prog w = .ok (.pointer (some ⟨w.heap.size, 0, none⟩)) (w.alloc (.mapIter (some r) clock #[] clock)) ∧ IR (w.alloc (.mapIter (some r) clock #[] clock)) r w.heap.size M es #[] := by
  obtain ⟨es, clock, hr, he, hn, hb⟩ := hm.out
  refine ⟨es, clock, ?_, he, hn, clock, (Below.heap_alloc _ _ _ (Array.getElem?_eq_some_iff.1 hr).1).trans hr, World.alloc_heap_new w _, hb⟩
  unfold Instr.range
  simp only [Sem.run_bind, run_underlying hmt, Result.andThen, run_getObj_map w r es clock hr, Sem.run_pure, run_newObj_alloc]
omit hmt
theorem run_nxt {w : World} {r t : Nat} {M : List (Int × Value)} {es : Array MapEntry} {seen : Array Nat} (h : IR w r t M es seen) (ty : TypeId) :
    (leftM es seen = [] ∧ (Instr.next (.pointer (some ⟨t, 0, none⟩)) false ty).run Try.prog w = .ok (.tuple #[.bool false]) w) ∨
    ∃ e, e ∈ leftM es seen ∧ ∃ p ∈ M, e.key = .int .i64 p.1 ∧ e.val = p.2 ∧ ∃ w', (Instr.next (.pointer (some ⟨t, 0, none⟩)) false ty).run Try.prog w = .ok (.tuple #[.bool true, .int .i64 p.1, p.2]) w' ∧ IR w' r t M es (seen.push e.born) ∧ w.grownBy w' (some t) ∧
      (Instr.entry (.pointer (some ⟨t, 0, none⟩))).run Try.prog w' = .ok (.tuple #[.int .i64 p.1, p.2]) w' := by
  obtain ⟨clock, hr, ht, hb⟩ := h.it
  have hlt := (Array.getElem?_eq_some_iff.1 ht).1
  have hrt : r ≠ t := fun e => by rw [e, ht] at hr; cases hr
  rcases run_next_at (P := Try.prog) w ty t r clock clock seen es clock ht hr (fun x hx => hb x.born (List.mem_map.2 ⟨x, hx, rfl⟩)) (Nat.le_refl _) with ⟨h0, hrun⟩ | ⟨e, he, w1, hw1, hrun⟩
  · refine .inl ⟨?_, hrun⟩
    unfold leftM
    have : (leftOf es seen).toList = [] := by rw [← List.length_eq_zero_iff, Array.length_toList]; exact h0
    simpa [leftOf] using this
  · have hel : e ∈ leftM es seen := by
      unfold leftM
      simpa [leftOf] using he
    have hee : e ∈ es.toList := (List.mem_filter.1 hel).1
    obtain ⟨p, hp, hpe⟩ : ∃ p ∈ M, (.int .i64 p.1, p.2) = (e.key, e.val) := by
      have : (e.key, e.val) ∈ M.map (fun p => (.int .i64 p.1, p.2)) := by rw [← h.rows]; exact List.mem_map.2 ⟨e, hee, rfl⟩
      obtain ⟨p, hp, hq⟩ := List.mem_map.1 this
      exact ⟨p, hp, hq⟩
    simp only [Prod.mk.injEq] at hpe
    have hk1 : ∀ k : Nat, w1.heap[k]? = w.heap[k]? := fun k => by rcases hw1 with rfl | rfl <;> rfl
    have hset : ∀ k : Nat, k ≠ t → (ChangeMaps.setBlock w1 t (.mapIter (some r) clock (seen.push e.born) clock)).heap[k]? = w.heap[k]? := fun k hk => by
      unfold ChangeMaps.setBlock
      rw [Array.getElem?_setIfInBounds_ne (Ne.symm hk)]
      exact hk1 k
    have hself : (ChangeMaps.setBlock w1 t (.mapIter (some r) clock (seen.push e.born) clock)).heap[t]? = some (.mapIter (some r) clock (seen.push e.born) clock) := by
      unfold ChangeMaps.setBlock
      have : t < w1.heap.size := by rcases hw1 with rfl | rfl <;> exact hlt
      simp [this]
    refine .inr ⟨e, hel, p, hp, hpe.1.symm, hpe.2.symm, _, by rw [hrun, hpe.1, hpe.2], ⟨h.rows, h.born, clock, (hset r hrt).trans hr, hself, hb⟩, ⟨?_, ?_, ?_, ?_, fun k hk hne => hset k (fun e => hne (by rw [e]))⟩, ?_⟩
    · rcases hw1 with rfl | rfl <;> rfl
    · rcases hw1 with rfl | rfl <;> rfl
    · rcases hw1 with rfl | rfl <;> rfl
    · rcases hw1 with rfl | rfl <;> simp [ChangeMaps.setBlock]
    · rw [hpe.1, hpe.2]
      exact run_entry_at _ t r clock seen es clock e hself ((hset r hrt).trans hr) hee h.born
theorem leftM_less {es : Array MapEntry} {seen : Array Nat} {e : MapEntry} (h : e ∈ leftM es seen) : (leftM es (seen.push e.born)).length < (leftM es seen).length := by
  unfold leftM at h ⊢
  have hsub : (es.toList.filter fun x => !(seen.push e.born).contains x.born) = ((es.toList.filter fun x => !seen.contains x.born).filter fun x => !(x.born == e.born)) := by
    rw [List.filter_filter]
    refine List.filter_congr fun x _ => ?_
    simp
    cases hb : decide (x.born ∈ seen) <;> by_cases hx : x.born = e.born <;> simp_all
  rw [hsub]
  refine Nat.lt_of_le_of_ne (List.length_filter_le _ _) (fun hl => ?_)
  have := (List.length_filter_eq_length_iff.1 hl) e h
  simp at this
end
section
variable {mt et : TypeId} (hmt : Try.prog.underlying mt = some (.map 3 et))
variable {ops : Array Oper} {rest : List Oper} {o : Oper} {a : Act} {Q : Exit → Act → World → Prop}
include hmt
theorem wpList_irng (w : World) (hg : o.guard = none) (m : Operand) (hop : o.op = Op.range mt m) (r : Nat) (M : List (Int × Value)) (hm : a.eval m = .map (some r)) (hM : IM w r M)
    (hK : ∀ es w', IR w' r w.heap.size M es #[] → w.grownBy w' none → wpList Try.prog ops Q rest (a.put o.dst (.pointer (some ⟨w.heap.size, 0, none⟩))) w') : wpList Try.prog ops Q (o :: rest) a w := by
  refine wpList_plain hg fun K' hK' => ?_
  obtain ⟨es, clock, hrun, r1⟩ := run_rng hmt hM
  unfold Oper.wp
  simp [execOp, hop, hm, hrun, Result.andThen]
  exact hK' _ _ (hK es _ r1 (World.grownBy_alloc _ _ none))
theorem wpList_idel (w : World) (hg : o.guard = none) (m x : Operand) (at_ : TypeId) (hop : o.op = .call { callee := .builtin .delete, args := #[m, x], argTypes := #[mt, at_] }) (r : Nat) (M : List (Int × Value)) (h : Int) (hm : a.eval m = .map (some r)) (hx : a.eval x = .int .i64 h) (hM : IM w r M)
    (hK : ∀ w', IM w' r (idel M h) → w.grownBy w' (some r) → wpList Try.prog ops Q rest (a.put o.dst (.tuple #[])) w') : wpList Try.prog ops Q (o :: rest) a w := by
  refine wpList_plain hg fun K' hK' => ?_
  obtain ⟨w', hr, r1, r2⟩ := run_del hmt hM h at_ o.type
  unfold Oper.wp execOp
  simp only [hop, resolve, invoke, builtin, Sem.run_bind, Sem.run_pure, Result.andThen_ok, List.map_toArray, List.map_cons, List.map_nil, hm, hx, hr]
  exact hK' _ _ (hK w' r1 r2)
omit hmt
theorem wpList_inxt (w : World) (hg : o.guard = none) (it : Operand) (hop : o.op = Op.next it false) (r t : Nat) (M : List (Int × Value)) (es : Array MapEntry) (seen : Array Nat) (hit : a.eval it = .pointer (some ⟨t, 0, none⟩)) (h : IR w r t M es seen)
    (hDone : leftM es seen = [] → wpList Try.prog ops Q rest (a.put o.dst (.tuple #[.bool false])) w)
    (hMore : ∀ e p w', e ∈ leftM es seen → p ∈ M → e.key = .int .i64 p.1 → e.val = p.2 → IR w' r t M es (seen.push e.born) → w.grownBy w' (some t) → (Instr.entry (.pointer (some ⟨t, 0, none⟩))).run Try.prog w' = .ok (.tuple #[.int .i64 p.1, p.2]) w' → wpList Try.prog ops Q rest (a.put o.dst (.tuple #[.bool true, .int .i64 p.1, p.2])) w') : wpList Try.prog ops Q (o :: rest) a w := by
  refine wpList_plain hg fun K' hK' => ?_
  unfold Oper.wp
  rcases run_nxt h o.type with ⟨h0, hrun⟩ | ⟨e, he, p, hp, hk, hv, w', hrun, hr, hgr, hen⟩
  · simp [execOp, hop, hit, hrun, Result.andThen]
    exact hK' _ _ (hDone h0)
  · simp [execOp, hop, hit, hrun, Result.andThen]
    exact hK' _ _ (hMore e p w' he hp hk hv hr hgr hen)
end
end Go.Proofs.Ytdcknokggjbebaa
