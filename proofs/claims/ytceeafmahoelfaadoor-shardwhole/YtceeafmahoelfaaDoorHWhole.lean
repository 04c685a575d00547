/-
  What stands through the loop of ShardWhole; slices of acts that came in.
-/
import Derived.Test.YtceeafmahoelfaaDoorHTurn
import Derived.Test.YtceeafmahoelfaaDoorHPick
namespace Go.Proofs.YtceeafmahoelfaaDoor
open Go.ChangeShapes Go.WideShapes Go.ChangeAt Go.RowKit

/-- What comes. -/
structure Act1 where
  n : Int
  bit : Int
  pat : Int
  other : Bool
def AE : Enc Act1 where
  sz := 4
  cells x := [.int .i64 x.n, .int .i64 x.bit, .int .i64 x.pat, .bool x.other]
  len _ := rfl
  one x u hu := by
    simp only [List.mem_cons, List.not_mem_nil, or_false] at hu
    rcases hu with rfl | rfl | rfl | rfl <;> rfl
theorem open_act {H : Type} {enc : TypeId × Value → H} {w : World} {n : Nat} {cs : List Value} {d : DataW H} {pl : List MemPlace} (hl : cs.length = AE.sz) (h : DataW.trod enc Tryd.prog w 0 (fun _ => true) true n 62 cs = some (d, pl)) : ∃ x, cs = AE.cells x ∧ True := by
  obtain ⟨xs, m, _, _, _, hxl, hg⟩ := DataW.trod_struct Tryd.underlying62 h
  match cs, hl with
  | [c0, c1, c2, c3], _ =>
    have g0 := hg 0 _ rfl
    have g1 := hg 1 _ rfl
    have g2 := hg 2 _ rfl
    have g3 := hg 3 _ rfl
    have hx4 : xs.length = 4 := by rw [hxl]; rfl
    match xs, hx4 with
    | [y0, y1, y2, y3], _ =>
      simp only [List.getElem_toArray, List.getElem_cons_zero, List.getElem_cons_succ] at g0 g1 g2 g3
      simp only [show Tryd.prog.cellsOf 3 = 1 from by kernel_rfl, show Tryd.prog.cellsOf 4 = 1 from by kernel_rfl] at g0 g1 g2 g3
      simp at g0 g1 g2 g3
      obtain ⟨o, e0, _, _⟩ := DataW.trod_int Tryd.underlying3 g0
      obtain ⟨a, e1, _, _⟩ := DataW.trod_int Tryd.underlying3 g1
      obtain ⟨b, e2, _, _⟩ := DataW.trod_int Tryd.underlying3 g2
      obtain ⟨s, e3, _⟩ := DataW.trod_bool Tryd.underlying4 g3
      simp only [List.cons.injEq, and_true] at e0 e1 e2 e3
      subst e0
      subst e1
      subst e2
      subst e3
      exact ⟨⟨o, a, b, s⟩, rfl, trivial⟩
theorem open_acts {H : Type} {enc : TypeId × Value → H} {w : World} {v : Value} {d : DataW H} {p : List MemPlace} (hv : ∃ a len cap, v = .slice a len cap) (h : DataW.Trod enc Tryd.prog w 0 (fun _ => true) true 59 v d p) : ∃ l, AtW AE w v l := by
  obtain ⟨a, len, cap, rfl⟩ := hv
  obtain ⟨fuel, hf⟩ := h
  have : Inhabited Act1 := ⟨⟨0, 0, 0, false⟩⟩
  obtain ⟨l, h1, h2⟩ := open_row AE Tryd.underlying59 (by kernel_rfl) (by decide) (Q := fun _ _ => True) (fun n cs d pl hl h => open_act hl h) (by simpa [Value.cells] using hf)
  exact ⟨l, h1⟩
/-- The block H holds n bools. -/
def BoolsAt (w : World) (H n : Nat) (h : Nat → Bool) : Prop := ∃ cur : Array Value, w.heap[H]? = some (.cells cur 4 (0, 0)) ∧ ∀ i, i < n → cur[i]? = some (.bool (h i))
theorem BoolsAt.cell {w : World} {H n : Nat} {h : Nat → Bool} (b : BoolsAt w H n h) {i : Nat} (hi : i < n) : w.cell? ⟨H, i, none⟩ = some (.bool (h i)) ∧ w.frozen? ⟨H, i, none⟩ = false := by
  obtain ⟨cur, hb, hg⟩ := b
  exact ⟨by simp [World.cell?, hb, hg i hi], by simp [World.frozen?, hb]⟩
theorem BoolsAt.kept {w w' : World} {H n : Nat} {h : Nat → Bool} {row : Option Nat} (b : BoolsAt w H n h) (hg : w.grownBy w' row) (hne : some H ≠ row) : BoolsAt w' H n h := by
  obtain ⟨cur, hb, hc⟩ := b
  exact ⟨cur, (hg.block H (Array.getElem?_eq_some_iff.1 hb).1 hne).trans hb, hc⟩
theorem BoolsAt.put {w : World} {H n : Nat} {h g : Nat → Bool} (b : BoolsAt w H n h) {i : Nat} {s : Bool} (hg : ∀ j, j < n → g j = if j = i then s else h j) : BoolsAt (w.setCell ⟨H, i, none⟩ (.bool s)) H n g := by
  obtain ⟨cur, hb, hc⟩ := b
  refine ⟨cur.setIfInBounds i (.bool s), by simp [World.setCell, Array.getElem?_modify, hb], fun j hj => ?_⟩
  rw [hg j hj]
  have hjs : j < cur.size := (Array.getElem?_eq_some_iff.1 (hc j hj)).1
  by_cases e : j = i
  · subst e
    rw [if_pos rfl]
    simp [hjs]
  · rw [if_neg e, Array.getElem?_setIfInBounds_ne (Ne.symm e)]
    exact hc j hj
theorem Row.other {w w' : World} {B : Nat} {e : TypeId} {v : Value} {ls : List Sh.Sd} {A : Nat} {cur : Array Value} {T : TypeId} (h : Row SE w B e v ls) (hg : w.grownBy w' (some A)) (hA : w.heap[A]? = some (.cells cur T (0, 0))) (hT : T ≠ e) : Row SE w' B e v ls := h.kept hg (by
  rcases h with ⟨rfl, _⟩ | ⟨g, cp, c2, rfl, _, hh, _⟩
  · exact .inl rfl
  · right
    intro e
    simp [Value.ownBlock] at e
    subst e
    rw [hh] at hA
    cases hA
    exact hT rfl)
/-- What stands through the loop: the assembler, what it has, both texts' shards. -/
def WS (wr w : World) (A H ca cb : Nat) (t o : ByteArray) (p1 p2 : Option Addr) (c1 c2 : Nat) (h : Nat → Bool) : Prop :=
  (AsmAt wr A (Sh.mf 7 t) (Sh.part t h) ∧ BoolsAt wr H ca h ∧ w.heap.size ≤ A ∧ w.heap.size ≤ H) ∧ Row SE wr w.heap.size 36 (.slice p1 ca c1) (Sh.sds 7 t ca) ∧ Row SE wr w.heap.size 36 (.slice p2 cb c2) (Sh.sds 8 o cb) ∧ Below w.heap.size w wr
theorem WS.up {wr wr' w : World} {A H ca cb : Nat} {t o : ByteArray} {p1 p2 : Option Addr} {c1 c2 : Nat} {h : Nat → Bool} (s : WS wr w A H ca cb t o p1 p2 c1 c2 h) (hb : Below wr.heap.size wr wr') : WS wr' w A H ca cb t o p1 p2 c1 c2 h :=
  ⟨⟨s.1.1.up hb, s.1.2.1.kept (grown_of_below hb none) (by simp), s.1.2.2⟩, s.2.1.up hb, s.2.2.1.up hb, bup s.2.2.2 hb⟩
theorem WS.drew {wr w : World} {A H ca cb : Nat} {t o : ByteArray} {p1 p2 : Option Addr} {c1 c2 : Nat} {h : Nat → Bool} (s : WS wr w A H ca cb t o p1 p2 c1 c2 h) (q : Nat) : WS (wr.drewN q) w A H ca cb t o p1 p2 c1 c2 h := s.up (Go.below_drewN (Below.refl _ _) q)
theorem AsmAt.blk {w : World} {A : Nat} {m : Sh.Mf} {f : Nat → ByteArray} (h : AsmAt w A m f) : ∃ cur, w.heap[A]? = some (.cells cur 74 (0, 0)) := by
  obtain ⟨cur, hb, _⟩ := h
  exact ⟨cur, hb⟩
/-- Behind an Add that added nothing that is new, or the piece of the text. -/
theorem WS.add {wr wr' w : World} {A H ca cb : Nat} {t o : ByteArray} {p1 p2 : Option Addr} {c1 c2 : Nat} {h g : Nat → Bool} (s : WS wr w A H ca cb t o p1 p2 c1 c2 h) (hg : wr.grownBy wr' (some A)) (ha : AsmAt wr' A (Sh.mf 7 t) (Sh.part t g)) :
    AsmAt wr' A (Sh.mf 7 t) (Sh.part t g) ∧ BoolsAt wr' H ca h ∧ Row SE wr' w.heap.size 36 (.slice p1 ca c1) (Sh.sds 7 t ca) ∧ Row SE wr' w.heap.size 36 (.slice p2 cb c2) (Sh.sds 8 o cb) ∧ Below w.heap.size w wr' := by
  obtain ⟨cur, hA⟩ := s.1.1.blk
  refine ⟨ha, s.1.2.1.kept hg ?_, s.2.1.other hg hA (by decide), s.2.2.1.other hg hA (by decide), s.2.2.2.grown hg s.2.2.2.size (fun j hj => by cases hj; exact s.1.2.2.1)⟩
  intro e
  cases e
  obtain ⟨cur2, hH, _⟩ := s.1.2.1
  rw [hA] at hH
  cases hH
theorem WS.same {wr wr' w : World} {A H ca cb : Nat} {t o : ByteArray} {p1 p2 : Option Addr} {c1 c2 : Nat} {h : Nat → Bool} (s : WS wr w A H ca cb t o p1 p2 c1 c2 h) (hg : wr.grownBy wr' (some A)) (ha : AsmAt wr' A (Sh.mf 7 t) (Sh.part t h)) : WS wr' w A H ca cb t o p1 p2 c1 c2 h := by
  obtain ⟨h1, h2, h3, h4, h5⟩ := s.add hg ha
  exact ⟨⟨h1, h2, s.1.2.2⟩, h3, h4, h5⟩
theorem WS.mark {wr w : World} {A H ca cb : Nat} {t o : ByteArray} {p1 p2 : Option Addr} {c1 c2 : Nat} {h g : Nat → Bool} {i : Nat} (ha : AsmAt wr A (Sh.mf 7 t) (Sh.part t g)) (hb : BoolsAt wr H ca h) (hA : w.heap.size ≤ A) (hH : w.heap.size ≤ H) (h1 : Row SE wr w.heap.size 36 (.slice p1 ca c1) (Sh.sds 7 t ca)) (h2 : Row SE wr w.heap.size 36 (.slice p2 cb c2) (Sh.sds 8 o cb)) (h3 : Below w.heap.size w wr)
    (hg : ∀ j, g j = (h j || decide (j = i))) : WS (wr.setCell ⟨H, i, none⟩ (.bool true)) w A H ca cb t o p1 p2 c1 c2 g := by
  have hgr := grown_setCell wr H i (.bool true)
  obtain ⟨cur2, hHb, _⟩ := id hb
  obtain ⟨cur, hAb⟩ := ha.blk
  refine ⟨⟨ha.kept hgr ?_, hb.put (fun j _ => ?_), hA, hH⟩, h1.other hgr hHb (by decide), h2.other hgr hHb (by decide), h3.setCell hH _⟩
  · intro e
    cases e
    rw [hAb] at hHb
    cases hHb
  · rw [hg j]
    by_cases e : j = i <;> simp [e]
/-- A shard whose data was turned: what adding it answers. -/
theorem Sh.add_turned {t u : ByteArray} {f : Nat → ByteArray} {i : Nat} (hi : i < Sh.cnt t.size) (hs : u.size = (Sh.pc t i).size) (hn : Sh.sum u ≠ Sh.sum (Sh.pc t i)) : Sh.addE (Sh.mf 7 t) f ⟨7, i, u, Sh.sum (Sh.pc t i)⟩ = 20 := by
  have h1 := Sh.pc_size hi
  have h2 := Sh.psz_pos hi
  unfold Sh.addE
  rw [Sh.mf_size]
  show (if (7 : Int) = 7 then (if Sh.psz t.size (i : Int) = 0 ∨ ((u.size : Nat) : Int) ≠ Sh.psz t.size (i : Int) then (4 : Int) else if (Sh.sum (Sh.pc t i) : Int) = (Sh.sum u : Int) then 0 else 20) else 190) = 20
  rw [if_pos rfl, if_neg (by omega), if_neg (by omega)]
theorem Sh.add_other {t o : ByteArray} {f : Nat → ByteArray} {i : Nat} : Sh.addE (Sh.mf 7 t) f (Sh.sd 8 o i) = 190 := by
  unfold Sh.addE
  show (if (8 : Int) = 7 then _ else _) = _
  rw [if_neg (by decide)]
theorem info4 : (Tryd.prog.info? 4).map (fun i => (i.zero, i.size, i.bytes)) = some (some (.bool false), 1, 1) := by kernel_rfl
theorem bools_made (w : World) (n : Nat) : BoolsAt (w.alloc (.cells (madeCells #[.bool false] n) 4)) w.heap.size n (fun _ => false) := by
  refine ⟨_, heap_alloc_new _ _, fun i hi => ?_⟩
  simp [madeCells, hi, Nat.mod_one]
end Go.Proofs.YtceeafmahoelfaaDoor
