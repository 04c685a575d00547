/-
  A tally in the program's memory: the struct, its map, and the bids that it stands for.
-/
import Derived.Test.YtdcknokggjbebaaYMp
import Derived.Test.YtdcknokggjbebaaYPanel
import Derived.Test.YtdcknokggjbebaaYPlain
namespace Go.Proofs.Ytdcknokggjbebaa
open Go.ChangeShapes Go.WideShapes Go.ChangeAt Go.RowKit Go.Deep
abbrev VB (x : Bd) : Value := .agg #[.int .i64 x.1, .int .i64 x.2.1, .int .i64 x.2.2]
abbrev BB (x : Bd) : Obj := .cells #[.int .i64 x.1, .int .i64 x.2.1, .int .i64 x.2.2] 32
theorem VB_inj {x y : Bd} (h : VB x = VB y) : x = y := by
  obtain ⟨a, b, c⟩ := x
  obtain ⟨a', b', c'⟩ := y
  simp [VB] at h
  simp [h]
def rows (M : List Bd) : List (Int × Value) := M.map fun x => (x.1, VB x)
theorem mem_rows {M : List Bd} {x : Bd} : (x.1, VB x) ∈ rows M ↔ x ∈ M := by
  unfold rows
  rw [List.mem_map]
  constructor
  · rintro ⟨y, hy, e⟩
    rw [Prod.mk.injEq] at e
    rw [← VB_inj e.2]
    exact hy
  · exact fun h => ⟨x, h, rfl⟩
theorem rows_keys (M : List Bd) : (rows M).map (·.1) = M.map (·.1) := by simp [rows]
theorem nodup_of_keys {M : List Bd} (h : (M.map (·.1)).Nodup) : M.Nodup := by
  rw [List.nodup_iff_pairwise_ne, List.pairwise_map] at h
  exact h.imp fun hab e => hab (by rw [e])
theorem keys_inc {L : List Bd} (h : Ty.Inc L) : (L.map (·.1)).Nodup := by
  rw [List.nodup_iff_pairwise_ne, List.pairwise_map]
  exact h.imp fun hab e => by omega
theorem keys_perm {M L : List Bd} (h : M.Perm L) (hi : Ty.Inc L) : ((rows M).map (·.1)).Nodup := by
  rw [rows_keys]
  exact ((h.map _).nodup_iff).2 (keys_inc hi)
theorem find_rows {M L : List Bd} (h : M.Perm L) (hi : Ty.Inc L) (k : Int) : (Ty.has L k = true → ∃ j, ifind (rows M) k 0 = some (j, VB (Ty.get L k))) ∧ (Ty.has L k = false → ifind (rows M) k 0 = none) := by
  cases e : ifind (rows M) k 0 with
  | none =>
    have h1 := ifind_none _ _ _ e
    have : Ty.has L k = false := Ty.has_no.2 fun x hx => h1 (x.1, VB x) (mem_rows.2 (h.mem_iff.2 hx))
    exact ⟨(fun h2 => by rw [this] at h2; cases h2), fun _ => rfl⟩
  | some q =>
    obtain ⟨j, v⟩ := q
    obtain ⟨_, h2⟩ := ifind_some _ _ _ _ _ e
    have hm := List.mem_of_getElem? h2
    unfold rows at hm
    obtain ⟨x, hx, ex⟩ := List.mem_map.1 hm
    rw [Prod.mk.injEq] at ex
    obtain ⟨rfl, rfl⟩ := ex
    have hxL := h.mem_iff.1 hx
    have : Ty.has L x.1 = true := Ty.has_iff.2 ⟨x, hxL, rfl⟩
    refine ⟨fun _ => ⟨j, by rw [Ty.get_mem hi hxL]⟩, fun h3 => by rw [this] at h3; cases h3⟩
theorem set_rows {M L : List Bd} (h : M.Perm L) (hi : Ty.Inc L) (b : Bd) : ∃ M' : List Bd, iset (rows M) b.1 (VB b) = rows M' ∧ M'.Perm (Ty.add L b) := by
  obtain ⟨k1, k2⟩ := iset_keys (keys_perm h hi) b.1 (VB b)
  have fin : ∀ M' : List Bd, iset (rows M) b.1 (VB b) = rows M' → M'.Perm (Ty.add L b) := fun M' e => by
    rw [e] at k1 k2
    rw [rows_keys] at k1
    refine (List.perm_ext_iff_of_nodup (nodup_of_keys k1) (nodup_of_keys (keys_inc (Ty.inc_add hi b)))).2 fun x => ?_
    rw [← mem_rows (M := M'), k2, Ty.mem_add, mem_rows, h.mem_iff]
    constructor
    · rintro (⟨_, e2⟩ | ⟨h1, h2⟩)
      · exact .inl (VB_inj e2)
      · exact .inr ⟨h2, h1⟩
    · rintro (rfl | ⟨h1, h2⟩)
      · exact .inl ⟨rfl, rfl⟩
      · exact .inr ⟨h2, h1⟩
  cases e : ifind (rows M) b.1 0 with
  | none =>
    have e2 : iset (rows M) b.1 (VB b) = rows (M ++ [b]) := by unfold iset; rw [e]; simp [rows]
    exact ⟨_, e2, fin _ e2⟩
  | some q =>
    have e2 : iset (rows M) b.1 (VB b) = rows (M.set q.1 b) := by unfold iset; rw [e]; simp [rows, List.map_set]
    exact ⟨_, e2, fin _ e2⟩
theorem del_rows {M L : List Bd} (h : M.Perm L) (hi : Ty.Inc L) (k : Int) : ∃ M' : List Bd, idel (rows M) k = rows M' ∧ M'.Perm (Ty.del L k) := by
  obtain ⟨k1, k2⟩ := idel_keys (keys_perm h hi) k
  have fin : ∀ M' : List Bd, idel (rows M) k = rows M' → M'.Perm (Ty.del L k) := fun M' e => by
    rw [e] at k1 k2
    rw [rows_keys] at k1
    refine (List.perm_ext_iff_of_nodup (nodup_of_keys k1) (nodup_of_keys (keys_inc (Ty.inc_del hi k)))).2 fun x => ?_
    rw [← mem_rows (M := M'), k2, Ty.mem_del, mem_rows, h.mem_iff]
    exact ⟨fun h => ⟨h.2, h.1⟩, fun h => ⟨h.2, h.1⟩⟩
  cases e : ifind (rows M) k 0 with
  | none =>
    have e2 : idel (rows M) k = rows M := by unfold idel; rw [e]
    exact ⟨_, e2, fin _ e2⟩
  | some q =>
    have e2 : idel (rows M) k = rows (M.eraseIdx q.1) := by unfold idel; rw [e]; simp [rows, erase_map]
    exact ⟨_, e2, fin _ e2⟩
/-- The bids of a map. -/
structure MA (w : World) (bm : Nat) (m : Int) (L : List Bd) : Prop where
  inc : Ty.Inc L
  fits : ∀ x ∈ L, Ty.Fits m x
  map : ∃ M, IM w bm (rows M) ∧ M.Perm L
/-- The struct at block s, whose map is block bm, is a tally of m nodes with just the bids L. -/
structure TA (w : World) (s bm : Nat) (m f : Int) (L : List Bd) : Prop where
  is : Pn.Is m f
  c0 : w.cell? ⟨s, 0, none⟩ = some (.int .i64 m)
  c1 : w.cell? ⟨s, 1, none⟩ = some (.map (some bm))
  ma : MA w bm m L
theorem MA.kept {w w' : World} {bm : Nat} {m : Int} {L : List Bd} (h : MA w bm m L) (hk : w'.heap[bm]? = w.heap[bm]?) : MA w' bm m L := by
  obtain ⟨M, h1, h2⟩ := h.map
  exact ⟨h.inc, h.fits, M, h1.kept hk, h2⟩
theorem MA.lt {w : World} {bm : Nat} {m : Int} {L : List Bd} (h : MA w bm m L) : bm < w.heap.size := by
  obtain ⟨M, h1, _⟩ := h.map
  exact h1.lt
theorem MA.no_cell {w : World} {bm : Nat} {m : Int} {L : List Bd} (h : MA w bm m L) {p : Addr} {v : Value} (hc : w.cell? p = some v) : p.block ≠ bm := by
  obtain ⟨M, h1, _⟩ := h.map
  exact h1.no_cell hc
theorem TA.lt {w : World} {s bm : Nat} {m f : Int} {L : List Bd} (h : TA w s bm m f L) : s < w.heap.size ∧ bm < w.heap.size ∧ s ≠ bm := ⟨World.block_lt_of_cell? _ _ h.c0, h.ma.lt, h.ma.no_cell h.c0⟩
theorem TA.kept {w w' : World} {s bm : Nat} {m f : Int} {L : List Bd} (h : TA w s bm m f L) (h1 : w'.heap[s]? = w.heap[s]?) (h2 : w'.heap[bm]? = w.heap[bm]?) : TA w' s bm m f L :=
  ⟨h.is, (cell_block (p := ⟨s, 0, none⟩) h1).trans h.c0, (cell_block (p := ⟨s, 1, none⟩) h1).trans h.c1, h.ma.kept h2⟩
theorem TA.up {w w' : World} {s bm : Nat} {m f : Int} {L : List Bd} (h : TA w s bm m f L) (hb : Below w.heap.size w w') : TA w' s bm m f L := h.kept (hb.block _ h.lt.1) (hb.block _ h.lt.2.1)
theorem TA.still {w w' : World} {s bm : Nat} {m f : Int} {L : List Bd} (h : TA w s bm m f L) (hg : w.grownBy w' none) : TA w' s bm m f L := h.kept (hg.block _ h.lt.1 (by simp)) (hg.block _ h.lt.2.1 (by simp))
/-- What turns another tally's map leaves this one. -/
theorem TA.other {w w' : World} {s bm bm' : Nat} {m m' f : Int} {L L' : List Bd} (h : TA w s bm m f L) (h' : MA w bm' m' L') (hne : bm ≠ bm') (hg : w.grownBy w' (some bm')) : TA w' s bm m f L :=
  h.kept (hg.block _ h.lt.1 (fun e => h'.no_cell h.c0 (Option.some.inj e))) (hg.block _ h.lt.2.1 (fun e => hne (Option.some.inj e)))
theorem TA.put {w w' : World} {s bm : Nat} {m f : Int} {L L' : List Bd} (h : TA w s bm m f L) (hg : w.grownBy w' (some bm)) (h' : MA w' bm m L') : TA w' s bm m f L' :=
  have e := hg.block _ h.lt.1 (fun e => h.lt.2.2 (Option.some.inj e))
  ⟨h.is, (cell_block (p := ⟨s, 0, none⟩) e).trans h.c0, (cell_block (p := ⟨s, 1, none⟩) e).trans h.c1, h'⟩
theorem zeroB (w : World) : (zeroValue 32).run Try.prog w = .ok (VB (0, 0, 0)) w := by go_simp
theorem MA.look2 {w : World} {bm : Nat} {m : Int} {L : List Bd} (h : MA w bm m L) (k : Int) : (Instr.lookup 63 (.map (some bm)) (.int .i64 k) true).run Try.prog w = .ok (.tuple #[VB (Ty.get L k), .bool (Ty.has L k)]) w := by
  obtain ⟨M, h1, h2⟩ := h.map
  obtain ⟨f1, f2⟩ := find_rows h2 h.inc k
  cases e : Ty.has L k with
  | true =>
    obtain ⟨j, hj⟩ := f1 e
    exact look_in Try.underlying63 h1 hj true
  | false =>
    rw [Ty.get_out e]
    exact look_out Try.underlying63 h1 (zeroB w) (f2 e) true
theorem MA.look1 {w : World} {bm : Nat} {m : Int} {L : List Bd} (h : MA w bm m L) (k : Int) : (Instr.lookup 63 (.map (some bm)) (.int .i64 k) false).run Try.prog w = .ok (VB (Ty.get L k)) w := by
  obtain ⟨M, h1, h2⟩ := h.map
  obtain ⟨f1, f2⟩ := find_rows h2 h.inc k
  cases e : Ty.has L k with
  | true =>
    obtain ⟨j, hj⟩ := f1 e
    exact look_in Try.underlying63 h1 hj false
  | false =>
    rw [Ty.get_out e]
    exact look_out Try.underlying63 h1 (zeroB w) (f2 e) false
theorem MA.upd {w : World} {bm : Nat} {m : Int} {L : List Bd} (h : MA w bm m L) (b : Bd) (hb : Ty.Fits m b) : ∃ w', (Instr.mapUpdate 63 (.map (some bm)) (.int .i64 b.1) (VB b)).run Try.prog w = .ok () w' ∧ MA w' bm m (Ty.add L b) ∧ w.grownBy w' (some bm) := by
  obtain ⟨M, h1, h2⟩ := h.map
  obtain ⟨w', hr, hm, hg⟩ := run_upd Try.underlying63 h1 b.1 (VB b)
  obtain ⟨M', e, hp⟩ := set_rows h2 h.inc b
  exact ⟨w', hr, ⟨Ty.inc_add h.inc b, Ty.fits_add h.fits hb, M', by rw [← e]; exact hm, hp⟩, hg⟩
theorem MA.del {w w' : World} {bm : Nat} {m : Int} {L M : List Bd} (h : MA w bm m L) (hp : M.Perm L) (k : Int) (hm : IM w' bm (idel (rows M) k)) : MA w' bm m (Ty.del L k) := by
  obtain ⟨M', e, hp'⟩ := del_rows hp h.inc k
  exact ⟨Ty.inc_del h.inc k, Ty.fits_del h.fits k, M', by rw [← e]; exact hm, hp'⟩
end Go.Proofs.Ytdcknokggjbebaa
