/-
  The statements' own Ints and Items say yes of one list; same; large.
-/
import Derived.Test.YtlmoibicepppmaaDoorWRef
namespace Go.Proofs.YtlmoibicepppmaaDoor
open Go.ChangeShapes Go.WideShapes Go.ChangeAt Go.RowKit Go.Deep Me
set_option maxRecDepth 100000
@[go_sem] theorem arr_same (w : World) (a b c d e f g : Int) : (Op.equalIn 10000 35 (.agg #[.int .i64 a, .int .i64 b, .int .i64 c, .int .i64 d, .int .i64 e, .int .i64 f, .int .i64 g]) (.agg #[.int .i64 a, .int .i64 b, .int .i64 c, .int .i64 d, .int .i64 e, .int .i64 f, .int .i64 g])).run Tryd.prog w = .ok true w := by
  have u3 := Tryd.underlying3
  have a3 := Tryd.isAgg3
  have z3 := Tryd.sizeOf3
  rw [show (10000 : Nat) = 9999 + 1 from rfl, Op.equalIn]
  simp only [Sem.run_bind, run_underlying Tryd.underlying35, Result.andThen_ok]
  simp only [Std.Legacy.Range.forIn_eq_forIn_range', Std.Legacy.Range.size, Nat.sub_zero, Nat.add_sub_cancel, Nat.div_one, List.range'_succ, List.range'_zero, List.forIn_cons, List.forIn_nil]
  go_simp
/-- A call that ends with a bool. -/
def IsB (e : Ending) : Prop := ∃ b, e = .returned (.bool b)
theorem isB (b : Bool) : IsB (.returned (.bool b)) := ⟨b, rfl⟩
set_option maxRecDepth 100000 in
set_option maxHeartbeats 1000000 in
theorem ints_same (u v : Value) (l : List Int) (w : World) (hu : AtW EI w u l) (hv : AtW EI w v l) : Calls Tryd.prog 38 #[u, v] w fun e w' => e = .returned (.bool true) ∧ Below w.heap.size w w' := by
  obtain ⟨ao, ca, rfl, hm, hx⟩ := hu.open
  obtain ⟨bo, cb, rfl, -, hy⟩ := hv.open
  unfold maxLen at hm
  obtain ⟨n, hn⟩ : ∃ n, l.length = n := ⟨_, rfl⟩
  rw [hn] at hm ⊢
  have HX : Hid (∀ wr, Below w.heap.size w wr → ∀ j, j < n → ∃ y b off b' off', ao = some ⟨b, off, none⟩ ∧ bo = some ⟨b', off', none⟩ ∧ wr.cell? ⟨b, off + j, none⟩ = some (.int .i64 y) ∧ wr.cell? ⟨b', off' + j, none⟩ = some (.int .i64 y)) := fun wr hb j hj => by
    have hj' : j < l.length := by omega
    obtain ⟨b, off, e1, -, h1, c1⟩ := hx j l[j] (List.getElem?_eq_getElem hj')
    obtain ⟨b', off', e2, -, h2, c2⟩ := hy j l[j] (List.getElem?_eq_getElem hj')
    have d1 := c1 0 _ rfl
    have d2 := c2 0 _ rfl
    simp only [EI, Nat.mul_one, Nat.add_zero] at d1 d2
    exact ⟨l[j], b, off, b', off', e1, e2, (hb.cell (p := ⟨b, off + j, none⟩) h1).trans d1, (hb.cell (p := ⟨b', off' + j, none⟩) h2).trans d2⟩
  clear hx hy hu hv hn
  go_enter Tryd.func38, Tryd.ntmps38
  go_wp2
  go_loopw [8] (fun i wr => ∃ k : Nat, k ≤ n ∧ i = .int .i64 k ∧ Hid (Below w.heap.size w wr)) (fun i _ => n - (intOf i).toNat)
  case atStart => exact ⟨0, Nat.zero_le _, rfl, Below.refl _ _⟩
  case round =>
    obtain ⟨k, hk, rfl, HB⟩ := hrel
    by_cases hlt : k < n
    · obtain ⟨y, b, off, b', off', rfl, rfl, c0, c1⟩ := HX.out wr HB.out k hlt
      have hg : decide ((n : Int) ≤ (k : Int)) = false := by simp; omega
      have hlt' : (k : Int) < (n : Int) := by omega
      go_wp2
      go_quiet (fail)
      go_wp2
      go_roundw
      case rel => exact ⟨k + 1, by omega, by go_num, Go.below_drewN HB.out _⟩
      case measure => simp [intOf]; omega
    · obtain rfl : k = n := by omega
      go_wp2
      go_ret
      exact ⟨rfl, HB.out⟩
set_option maxRecDepth 100000 in
set_option maxHeartbeats 1000000 in
theorem items_same (u v : Value) (l : List It) (w : World) (hu : AtW EM w u l) (hv : AtW EM w v l) : Calls Tryd.prog 39 #[u, v] w fun e w' => e = .returned (.bool true) ∧ Below w.heap.size w w' := by
  obtain ⟨ao, ca, rfl, hm, hx⟩ := hu.open
  obtain ⟨bo, cb, rfl, -, hy⟩ := hv.open
  unfold maxLen at hm
  obtain ⟨n, hn⟩ : ∃ n, l.length = n := ⟨_, rfl⟩
  rw [hn] at hm ⊢
  have HX : Hid (∀ wr, Below w.heap.size w wr → ∀ j, j < n → ∃ (x0 x1 x2 : Int) (x3 : ByteArray) (b off b' off' : Nat), ao = some ⟨b, off, none⟩ ∧ bo = some ⟨b', off', none⟩ ∧ (wr.cell? ⟨b, off + j * 4, none⟩ = some (.int .i64 x0) ∧ wr.cell? ⟨b, off + j * 4 + 1, none⟩ = some (.int .i64 x1) ∧ wr.cell? ⟨b, off + j * 4 + 2, none⟩ = some (.int .i64 x2) ∧ wr.cell? ⟨b, off + j * 4 + 3, none⟩ = some (.string x3)) ∧ (wr.cell? ⟨b', off' + j * 4, none⟩ = some (.int .i64 x0) ∧ wr.cell? ⟨b', off' + j * 4 + 1, none⟩ = some (.int .i64 x1) ∧ wr.cell? ⟨b', off' + j * 4 + 2, none⟩ = some (.int .i64 x2) ∧ wr.cell? ⟨b', off' + j * 4 + 3, none⟩ = some (.string x3))) := fun wr hb j hj => by
    have hj' : j < l.length := by omega
    obtain ⟨b, off, e1, -, h1, c1⟩ := hx j l[j] (List.getElem?_eq_getElem hj')
    obtain ⟨b', off', e2, -, h2, c2⟩ := hy j l[j] (List.getElem?_eq_getElem hj')
    exact ⟨_, _, _, _, b, off, b', off', e1, e2, ⟨(hb.cell (p := ⟨b, off + j * 4, none⟩) h1).trans (c1 0 _ rfl), (hb.cell (p := ⟨b, off + j * 4 + 1, none⟩) h1).trans (c1 1 _ rfl), (hb.cell (p := ⟨b, off + j * 4 + 2, none⟩) h1).trans (c1 2 _ rfl), (hb.cell (p := ⟨b, off + j * 4 + 3, none⟩) h1).trans (c1 3 _ rfl)⟩, ⟨(hb.cell (p := ⟨b', off' + j * 4, none⟩) h2).trans (c2 0 _ rfl), (hb.cell (p := ⟨b', off' + j * 4 + 1, none⟩) h2).trans (c2 1 _ rfl), (hb.cell (p := ⟨b', off' + j * 4 + 2, none⟩) h2).trans (c2 2 _ rfl), (hb.cell (p := ⟨b', off' + j * 4 + 3, none⟩) h2).trans (c2 3 _ rfl)⟩⟩
  clear hx hy hu hv hn
  go_enter Tryd.func39, Tryd.ntmps39
  go_wp2
  go_loopw [8] (fun i wr => ∃ k : Nat, k ≤ n ∧ i = .int .i64 k ∧ Hid (Below w.heap.size w wr)) (fun i _ => n - (intOf i).toNat)
  case atStart => exact ⟨0, Nat.zero_le _, rfl, Below.refl _ _⟩
  case round =>
    obtain ⟨k, hk, rfl, HB⟩ := hrel
    by_cases hlt : k < n
    · obtain ⟨x0, x1, x2, x3, b, off, b', off', rfl, rfl, ⟨c0, c1, c2, c3⟩, d0, d1, d2, d3⟩ := HX.out wr HB.out k hlt
      have hg : decide ((n : Int) ≤ (k : Int)) = false := by simp; omega
      have hlt' : (k : Int) < (n : Int) := by omega
      go_wp2
      go_quiet (fail)
      go_wp2
      go_roundw
      case rel => exact ⟨k + 1, by omega, by go_num, Go.below_drewN HB.out _⟩
      case measure => simp [intOf]; omega
    · obtain rfl : k = n := by omega
      go_wp2
      go_ret
      exact ⟨rfl, HB.out⟩
set_option maxRecDepth 100000 in
set_option maxRecDepth 100000 in
set_option maxHeartbeats 4000000 in
theorem same_any (m : Mm) (u z u' z' : Value) (w : World) (h1 : MAt w m u z) (h2 : MAt w m u' z') : Calls Tryd.prog 15 #[VM m u z, VM m u' z'] w fun e w' => e = .returned (.bool true) ∧ Below w.heap.size w w' := by
  obtain ⟨p1, c1, rfl, -, -⟩ := h1.lives.open
  obtain ⟨p2, c2, rfl, -, -⟩ := h1.items.open
  obtain ⟨p3, c3, rfl, -, -⟩ := h2.lives.open
  obtain ⟨p4, c4, rfl, -, -⟩ := h2.items.open
  obtain ⟨n1, hn1⟩ : ∃ n, m.lives.length = n := ⟨_, rfl⟩
  obtain ⟨n2, hn2⟩ : ∃ n, m.items.length = n := ⟨_, rfl⟩
  rw [hn1, hn2] at h1 h2 ⊢
  clear hn1 hn2
  have HA : Hid (MAt w m (.slice p1 n1 c1) (.slice p2 n2 c2)) := h1
  have HB : Hid (MAt w m (.slice p3 n1 c3) (.slice p4 n2 c4)) := h2
  clear h1 h2
  obtain ⟨W, hW⟩ : ∃ W, (w.alloc (BM m (.slice p1 n1 c1) (.slice p2 n2 c2))).alloc (BMr m (.slice p3 n1 c3) (.slice p4 n2 c4)) = W := ⟨_, rfl⟩
  have HW : Hid ((w.alloc (BM m (.slice p1 n1 c1) (.slice p2 n2 c2))).alloc (BMr m (.slice p3 n1 c3) (.slice p4 n2 c4)) = W) := hW
  have HBW : Hid (Below w.heap.size w W) := by rw [← hW]; exact bup (below_alloc _ _) (below_alloc _ _)
  have HQ : Hid (W.heap[w.heap.size + 1]? = some (BMr m (.slice p3 n1 c3) (.slice p4 n2 c4))) := by
    show _ = _
    rw [← hW]
    have := heap_alloc_new (w.alloc (BM m (.slice p1 n1 c1) (.slice p2 n2 c2))) (BMr m (.slice p3 n1 c3) (.slice p4 n2 c4))
    rwa [show (w.alloc (BM m (.slice p1 n1 c1) (.slice p2 n2 c2))).heap.size = w.heap.size + 1 from by simp] at this
  clear hW
  go_enter Tryd.func15, Tryd.ntmps15
  go_wp2_with fail
  rw [HW.out]
  refine (mref_any m _ _ ⟨_, _, _, rfl⟩ ⟨_, _, _, rfl⟩ _).mono ?_
  rintro e w1 ⟨rfl, hb1⟩
  obtain ⟨W2, hW2⟩ : ∃ W2, w1.alloc (BMr m (.slice p1 n1 c1) (.slice p2 n2 c2)) = W2 := ⟨_, rfl⟩
  have HW2 : Hid (w1.alloc (BMr m (.slice p1 n1 c1) (.slice p2 n2 c2)) = W2) := hW2
  have hb2 : Below w.heap.size w W2 := by rw [← hW2]; exact bup (bup HBW.out hb1) (below_alloc _ _)
  have hq := blk (blk HQ.out hb1) (below_alloc w1 (BMr m (.slice p1 n1 c1) (.slice p2 n2 c2)))
  have hn := heap_alloc_new w1 (BMr m (.slice p1 n1 c1) (.slice p2 n2 c2))
  obtain ⟨x0, x1, x2, x3, x4, x5, x6, x7, x8, x9, x10, x11, x12, x13, x14⟩ := mr_of hq
  obtain ⟨y0, y1, y2, y3, y4, y5, y6, y7, y8, y9, y10, y11, y12, y13, y14⟩ := mr_of hn
  have HQ2 : Hid (W2.heap[w.heap.size + 1]? = some (BMr m (.slice p3 n1 c3) (.slice p4 n2 c4)) ∧ W2.heap[w1.heap.size]? = some (BMr m (.slice p1 n1 c1) (.slice p2 n2 c2)) ∧ Below w.heap.size w W2) := by rw [← hW2] at hb2 ⊢; exact ⟨hq, hn, hb2⟩
  clear hb1 hb2 hq hn hW2
  go_wp2_with fail
  rw [HW2.out]
  refine (ints_same _ _ m.lives _ (HA.out.lives.up HQ2.out.2.2) (HB.out.lives.up HQ2.out.2.2)).mono ?_
  rintro e w2 ⟨rfl, hb2⟩
  obtain ⟨x0, x1, x2, x3, x4, x5, x6, x7, x8, x9, x10, x11, x12, x13, x14⟩ := mr_of (blk HQ2.out.1 hb2)
  obtain ⟨y0, y1, y2, y3, y4, y5, y6, y7, y8, y9, y10, y11, y12, y13, y14⟩ := mr_of (blk HQ2.out.2.1 hb2)
  have HQ3 : Hid (w2.heap[w.heap.size + 1]? = some (BMr m (.slice p3 n1 c3) (.slice p4 n2 c4)) ∧ w2.heap[w1.heap.size]? = some (BMr m (.slice p1 n1 c1) (.slice p2 n2 c2)) ∧ Below w.heap.size w w2) := ⟨blk HQ2.out.1 hb2, blk HQ2.out.2.1 hb2, bup HQ2.out.2.2 hb2⟩
  clear hb2
  go_wp2_with fail
  refine (items_same _ _ m.items _ (HA.out.items.up HQ3.out.2.2) (HB.out.items.up HQ3.out.2.2)).mono ?_
  rintro e w3 ⟨rfl, hb3⟩
  obtain ⟨x0, x1, x2, x3, x4, x5, x6, x7, x8, x9, x10, x11, x12, x13, x14⟩ := mr_of (blk HQ3.out.1 hb3)
  obtain ⟨y0, y1, y2, y3, y4, y5, y6, y7, y8, y9, y10, y11, y12, y13, y14⟩ := mr_of (blk HQ3.out.2.1 hb3)
  have HB4 : Hid (Below w.heap.size w w3) := bup HQ3.out.2.2 hb3
  clear hb3
  go_wp2
  go_ret
  exact ⟨rfl, HB4.out⟩
set_option maxRecDepth 100000 in
set_option maxHeartbeats 1000000 in
theorem large_any (m : Mm) (u z : Value) (w : World) (hv : MAt w m u z) : Calls Tryd.prog 6 #[VM m u z] w fun e w' => IsB e ∧ Below w.heap.size w w' := by
  obtain ⟨p1, c1, rfl, -, -⟩ := hv.lives.open
  obtain ⟨p2, c2, rfl, hm, hx⟩ := hv.items.open
  unfold maxLen at hm
  obtain ⟨n1, hn1⟩ : ∃ n, m.lives.length = n := ⟨_, rfl⟩
  obtain ⟨n, hn⟩ : ∃ n, m.items.length = n := ⟨_, rfl⟩
  rw [hn] at hm
  rw [hn1, hn] at hv ⊢
  have HX : Hid (∀ wr, Below w.heap.size w wr → ∀ j, j < n → ∃ (x0 x1 x2 : Int) (x3 : ByteArray) (b off : Nat), p2 = some ⟨b, off, none⟩ ∧ (wr.cell? ⟨b, off + j * 4, none⟩ = some (.int .i64 x0) ∧ wr.cell? ⟨b, off + j * 4 + 1, none⟩ = some (.int .i64 x1) ∧ wr.cell? ⟨b, off + j * 4 + 2, none⟩ = some (.int .i64 x2) ∧ wr.cell? ⟨b, off + j * 4 + 3, none⟩ = some (.string x3))) := fun wr hb j hj => by
    have hj' : j < m.items.length := by omega
    obtain ⟨b, off, e1, -, h1, c1⟩ := hx j m.items[j] (List.getElem?_eq_getElem hj')
    exact ⟨_, _, _, _, b, off, e1, ⟨(hb.cell (p := ⟨b, off + j * 4, none⟩) h1).trans (c1 0 _ rfl), (hb.cell (p := ⟨b, off + j * 4 + 1, none⟩) h1).trans (c1 1 _ rfl), (hb.cell (p := ⟨b, off + j * 4 + 2, none⟩) h1).trans (c1 2 _ rfl), (hb.cell (p := ⟨b, off + j * 4 + 3, none⟩) h1).trans (c1 3 _ rfl)⟩⟩
  clear hx hn hn1 hv
  obtain ⟨A, hA⟩ : ∃ A, w.heap.size = A := ⟨_, rfl⟩
  have HA : Hid (w.heap.size = A) := hA
  have HM : Hid (∀ wr, Below (w.alloc (BM m (.slice p1 n1 c1) (.slice p2 n c2))).heap.size (w.alloc (BM m (.slice p1 n1 c1) (.slice p2 n c2))) wr → wr.cell? ⟨w.heap.size, 9, none⟩ = some (.slice p2 n c2)) := fun wr hb => (mm_of (blk (heap_alloc_new _ _) hb)).2.2.2.2.2.2.2.2.2.1
  have hm0 := HM.out _ (Below.refl _ _)
  clear hA
  go_enter Tryd.func6, Tryd.ntmps6
  go_wp2
  go_loopw [3, 9] (fun s i wr => ∃ (k : Nat) (y : Int), k ≤ n ∧ i = .int .i64 k ∧ s = .int .i64 y ∧ Hid (Below (w.alloc (BM m (.slice p1 n1 c1) (.slice p2 n c2))).heap.size (w.alloc (BM m (.slice p1 n1 c1) (.slice p2 n c2))) wr)) (fun _ i _ => n - (intOf i).toNat)
  case atStart => exact ⟨0, 0, Nat.zero_le _, rfl, rfl, Below.refl _ _⟩
  case round =>
    obtain ⟨k, y, hk, rfl, rfl, HB⟩ := hrel
    have hsz := HB.out.size
    have hm1 := HM.out _ HB.out
    by_cases hlt : k < n
    · obtain ⟨x0, x1, x2, x3, b, off, rfl, c0, c1, c2, c3⟩ := HX.out wr (bup (below_alloc _ _) HB.out) k hlt
      have hlt' : (k : Int) < (n : Int) := by omega
      go_wp2
      go_roundw
      case rel => exact ⟨k + 1, _, by omega, by go_num, rfl, HB.out.alloc hsz _⟩
      case measure => simp [intOf]; omega
    · obtain rfl : k = n := by omega
      by_cases hg : (300 : Int) < (k : Int)
      · go_wp2
        go_ret
        exact ⟨isB _, bup (below_alloc _ _) HB.out⟩
      · go_wp2
        go_ret
        exact ⟨isB _, bup (below_alloc _ _) HB.out⟩
end Go.Proofs.YtlmoibicepppmaaDoor
