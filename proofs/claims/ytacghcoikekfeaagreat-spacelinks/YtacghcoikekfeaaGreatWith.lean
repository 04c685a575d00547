/-
  itab's with: a table of its own with an inode in a place.
-/
import Derived.Test.YtacghcoikekfeaaGreatOwn
import Derived.OwnWalk
import Derived.Deep.MidRow
namespace Go.Proofs.YtacghcoikekfeaaGreat
open Go.ChangeShapes Go.WideShapes Go.ChangeAt Go.RowKit Go.Deep It
set_option maxRecDepth 100000

theorem made_flat (n : Nat) : madeCells #[.int .i64 0, .int .i64 0, .int .i64 0, .int .i64 0, .int .i64 0, .slice none 0 0, .slice none 0 0, .int .i64 0] (n * 8) = (EI.flat (List.replicate n zeroR)).toArray := by
  apply Array.ext
  · rw [size_madeCells]
    simp [EI.flat_length]
    rfl
  · intro j h1 h2
    rw [size_madeCells] at h1
    have hk : j / 8 < n := by omega
    have hr : (List.replicate n zeroR)[j / 8]? = some zeroR := by simp [hk]
    have hm : j % 8 < 8 := Nat.mod_lt _ (by omega)
    have key : ∀ u, (EI.cells zeroR)[j % 8]? = some u → (EI.flat (List.replicate n zeroR)).toArray[j] = u := fun u hu => by
      have := EI.flat_at _ _ _ hr (j % 8) u hu
      rw [show j / 8 * EI.sz + j % 8 = j from by show j / 8 * 8 + j % 8 = j; omega] at this
      rw [← Option.some_inj, ← this]
      simp
    simp only [madeCells, Array.getElem_map, Array.getElem_range]
    generalize j % 8 = q at hm key ⊢
    match q, hm with
    | 0, _ => exact (key _ rfl).symm
    | 1, _ => exact (key _ rfl).symm
    | 2, _ => exact (key _ rfl).symm
    | 3, _ => exact (key _ rfl).symm
    | 4, _ => exact (key _ rfl).symm
    | 5, _ => exact (key _ rfl).symm
    | 6, _ => exact (key _ rfl).symm
    | 7, _ => exact (key _ rfl).symm
/-- A row of inodes, whole. -/
def Full (w : World) (g : Nat) (R : List Rw) : Prop := w.heap[g]? = some (.cells (EI.flat R).toArray 65 (0, 0))
theorem wpList_make_tab {P : Program} (w : World) {ops : Array Oper} {rest : List Oper} {o : Oper} {a : Act} {Q : Exit → Act → World → Prop}
    (hg : o.guard = none) (l c : Operand) (t : TypeId) (hop : o.op = Op.makeSlice t l c)
    (i : TypeInfo) (h1 : P.underlying t = some (.slice 65)) (h2 : P.info? 65 = some i) (h3 : i.zero = some (.agg #[.int .i64 0, .int .i64 0, .int .i64 0, .int .i64 0, .int .i64 0, .slice none 0 0, .slice none 0 0, .int .i64 0])) (h4 : i.size = 8) (h5 : i.bytes = 96)
    (L C : Int) (n : Nat) (hl : a.eval l = .int .i64 L) (hc : a.eval c = .int .i64 C) (hL : L = (n : Int)) (hC : C = (n : Int)) (hn : n ≤ 25)
    (hK : ∀ w', Full w' w.heap.size (List.replicate n zeroR) → w.grownBy w' none → wpList P ops Q rest (a.put o.dst (.slice (some ⟨w.heap.size, 0, none⟩) n n)) w') :
    wpList P ops Q (o :: rest) a w := by
  refine wpList_plain hg fun K hK' => ?_
  have hr := run_make (P := P) w t _ i _ h1 h2 h3 .i64 .i64 n n (by omega) (Int.le_refl _) (by rw [h5]; omega) (by omega)
  simp only [Int.toNat_natCast, h4] at hr
  rw [show (Value.agg #[Value.int .i64 0, .int .i64 0, .int .i64 0, .int .i64 0, .int .i64 0, .slice none 0 0, .slice none 0 0, .int .i64 0]).cells = #[Value.int .i64 0, .int .i64 0, .int .i64 0, .int .i64 0, .int .i64 0, .slice none 0 0, .slice none 0 0, .int .i64 0] from rfl, made_flat] at hr
  subst hL
  subst hC
  unfold Oper.wp
  simp [execOp, hop, hl, hc, hr, Result.andThen]
  exact hK' _ _ (hK _ (heap_alloc_new _ _) (World.grownBy_alloc _ _ _))
theorem wpList_copy_tab {P : Program} (w : World) {ops : Array Oper} {rest : List Oper} {o : Oper} {a : Act} {Q : Exit → Act → World → Prop} (hgd : o.guard = none) (d s : Operand) (t : TypeId)
    (ho : o.op = .call { callee := .builtin .copy, args := #[d, s], argTypes := #[t, t] })
    (i : TypeInfo) (h1 : P.underlying t = some (.slice 65)) (h2 : P.info? 65 = some i) (h4 : i.size = 8)
    (g n c : Nat) (hd : a.eval d = .slice (some ⟨g, 0, none⟩) n c) (v : Value) (hs : a.eval s = v) (S : Nat → Prop) (L R : List Rw) (hL : At EI S w v L) (hR : Full w g R) (hlen : R.length = n) (hle : L.length ≤ n)
    (h : ∀ w' m, Full w' g (L ++ R.drop L.length) → w.grownBy w' (some g) → wpList P ops Q rest (a.put o.dst (goInt m)) w') : wpList P ops Q (o :: rest) a w := by
  refine wpList_plain hgd fun K hK => ?_
  have hsrc : Src P i.size t v L.length (EI.flat L) w := by rw [h4]; exact hL.src h1
  have hfl := EI.flat_length L
  have hfr := EI.flat_length R
  have hle8 : L.length * 8 ≤ R.length * 8 := Nat.mul_le_mul_right _ (by omega)
  have e8 : EI.sz = 8 := rfl
  rw [e8] at hfl hfr
  have hst := run_storeCells_at P g 0 65 (EI.flat L) 0 (EI.flat R).toArray w hR (by simp; omega) (EI.flat_one L)
  simp only [Nat.zero_add, List.take_zero, List.nil_append] at hst
  have hmin : Nat.min L.length n = L.length := Nat.min_eq_left hle
  have hrun : (Builtin.copy_ #[t, t] o.type #[.slice (some ⟨g, 0, none⟩) n c, v]).run P w = .ok (goInt L.length) (w.setRow g (EI.flat L ++ (EI.flat R).drop (EI.flat L).length).toArray) := by
    simp [Builtin.copy_, run_underlying h1, hsrc.len, sizeOf, typeInfo, h2, hmin, hsrc.cells, hst]
  have hfull : Full (w.setRow g (EI.flat L ++ (EI.flat R).drop (EI.flat L).length).toArray) g (L ++ R.drop L.length) := by
    unfold Full
    rw [setRow_heap w g _ _ _ _ hR, EI.flat_append]
    congr 4
    have : ∀ (R : List Rw) (k : Nat), (EI.flat R).drop (k * 8) = EI.flat (R.drop k) := by
      intro R
      induction R with
      | nil => intro k; simp [Enc.flat]
      | cons y l ih =>
        intro k
        cases k with
        | zero => simp
        | succ k =>
          have e : EI.flat (y :: l) = EI.cells y ++ EI.flat l := by simp [Enc.flat]
          rw [e, List.drop_append, List.drop_of_length_le (by rw [EI.len]; show 8 ≤ _; omega), List.nil_append, EI.len, show (k + 1) * 8 - EI.sz = k * 8 from by show (k + 1) * 8 - 8 = _; omega, ih]
          rfl
    rw [hfl, this]
  unfold Oper.wp
  simp [execOp, ho, resolve, invoke, builtin, hd, hs, hrun, Result.andThen]
  exact hK _ _ (h _ _ hfull ⟨rfl, rfl, rfl, by simp [World.setRow], fun k _ hk => setRow_other w g k _ (fun e => hk (by simp [e]))⟩)
theorem Full.there {w : World} {g : Nat} {R : List Rw} (h : Full w g R) {i : Nat} (hi : i < R.length) : w.there g (i * 8) 8 := fun j hj => by
  have hl := EI.flat_length R
  have e8 : EI.sz = 8 := rfl
  rw [e8] at hl
  unfold Full at h
  have hlt : i * 8 + j < (EI.flat R).length := by omega
  simp [World.cell?, World.frozen?, h, hlt]
theorem Full.at {w : World} {g : Nat} {R : List Rw} (h : Full w g R) {i : Nat} {x : Rw} (hx : R[i]? = some x) : eight w g (i * 8) x := by
  unfold Full at h
  have c : ∀ k u, (EI.cells x)[k]? = some u → w.cell? ⟨g, i * 8 + k, none⟩ = some u := fun k u hu => by
    have := EI.flat_at R i x hx k u hu
    rw [show i * EI.sz + k = i * 8 + k from rfl] at this
    simp [World.cell?, h, this]
  exact ⟨c 0 _ rfl, c 1 _ rfl, c 2 _ rfl, c 3 _ rfl, c 4 _ rfl, c 5 _ rfl, c 6 _ rfl, c 7 _ rfl⟩
theorem setCells_row {g : Nat} {t : TypeId} : ∀ (vs : List Value) (o : Nat) (cur : Array Value) (w : World), w.heap[g]? = some (.cells cur t (0, 0)) → o + vs.length ≤ cur.size →
    (w.setCells g o vs).heap[g]? = some (.cells (cur.toList.take o ++ vs ++ cur.toList.drop (o + vs.length)).toArray t (0, 0))
  | [], o, cur, w, h, hl => by simp [World.setCells, h]
  | v :: vs, o, cur, w, h, hl => by
    rw [World.setCells]
    simp only [List.length_cons] at hl
    have h1 : (w.setCell ⟨g, o, none⟩ v).heap[g]? = some (.cells (cur.setIfInBounds o v) t (0, 0)) := by
      rw [setCell_eq_setRow w g o cur t _ v h, setRow_heap w g cur _ t _ h]
    rw [setCells_row vs (o + 1) _ _ h1 (by simp; omega)]
    congr 3
    have e := list_seg_step cur.toList o v vs (by simp; omega)
    simpa [Array.toList_setIfInBounds, Nat.add_assoc, Nat.add_comm, Nat.add_left_comm] using e
theorem Full.set {w : World} {g : Nat} {R : List Rw} (h : Full w g R) {i : Nat} (hi : i < R.length) (x : Rw) : Full (w.setCells g (i * 8) (EI.cells x)) g (R.set i x) := by
  have hl := EI.flat_length R
  have e8 : EI.sz = 8 := rfl
  rw [e8] at hl
  unfold Full at h ⊢
  have hcl : (EI.cells x).length = 8 := EI.len x
  rw [setCells_row (EI.cells x) (i * 8) _ w h (by simp; omega), hcl]
  have := EI.flat_set R i x hi
  rw [e8] at this
  simp only [this]
end Go.Proofs.YtacghcoikekfeaaGreat
