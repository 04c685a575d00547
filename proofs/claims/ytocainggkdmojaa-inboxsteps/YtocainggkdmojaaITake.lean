/-
  inbox.New, Len, Close, Take.
-/
import Derived.Test.YtocainggkdmojaaIPut
namespace Go.Proofs.Ytocainggkdmojaa
open Go.Conc Go.RowKit Go.ChangeShapes Go.WideShapes Go.ChangeAt
theorem infoS : (Try.prog.info? 9).map (·.bytes) = some 16 := by kernel_rfl
theorem mkc (n : Int) (h0 : 0 ≤ n) (h1 : n ≤ 256) (w : World) : (Instr.makeChan 47 (.int .i64 n)).run Try.prog w = .ok (.chan (some w.heap.size)) (w.alloc (.chan n.toNat #[] false 0 0 false)) := by
  obtain ⟨i, hi, hb⟩ := Option.map_eq_some_iff.1 infoS
  obtain ⟨k, rfl⟩ := Int.eq_ofNat_of_zero_le h0
  simpa using run_makeChan (P := Try.prog) (w := w) Try.underlying47 hi .i64 k (by omega) (by rw [hb]; omega)
theorem new_bad (n : Int) (w : World) (h : n < 1 ∨ 256 < n) : Calls Try.prog 6 #[.int .i64 n] w fun e w' => e = .returned (.tuple #[.pointer none, .int .i64 1]) ∧ w' = w := by
  by_cases h1 : n < 1
  · go_enter Try.func6, Try.ntmps6
    go_wp2
    go_ret2
    exact ⟨rfl, rfl⟩
  · have h2 : 256 < n := by omega
    clear h
    go_enter Try.func6, Try.ntmps6
    go_wp2
    go_ret2
    exact ⟨rfl, rfl⟩
theorem in_new (w W : World) (r : Nat) (a b : Nat) (hab : a = w.heap.size ∧ b = w.heap.size + 1 ∨ a = w.heap.size + 1 ∧ b = w.heap.size) (hW : W.heap = (((w.alloc (.chan r #[] false 0 0 false)).alloc (.chan r #[] false 0 0 false)).alloc (.cells #[.chan (some a), .chan (some b), .bool false] 49)).heap) : In W (w.heap.size + 2) a b r false [] [] := by
  have s1 : (w.alloc (.chan r #[] false 0 0 false)).heap.size = w.heap.size + 1 := by simp
  have s2 : ((w.alloc (.chan r #[] false 0 0 false)).alloc (.chan r #[] false 0 0 false)).heap.size = w.heap.size + 2 := by simp
  have k0 := heap_alloc_new w (.chan r #[] false 0 0 false)
  have k1 := heap_alloc_new (w.alloc (.chan r #[] false 0 0 false)) (.chan r #[] false 0 0 false)
  have k2 := heap_alloc_new ((w.alloc (.chan r #[] false 0 0 false)).alloc (.chan r #[] false 0 0 false)) (.cells #[.chan (some a), .chan (some b), .bool false] 49)
  rw [s1] at k1
  rw [s2] at k2
  have j0 : (((w.alloc (.chan r #[] false 0 0 false)).alloc (.chan r #[] false 0 0 false)).alloc (.cells #[.chan (some a), .chan (some b), .bool false] 49)).heap[w.heap.size]? = some (.chan r #[] false 0 0 false) := (Below.heap_alloc _ _ _ (by rw [s2]; omega)).trans ((Below.heap_alloc _ _ _ (by rw [s1]; omega)).trans k0)
  have j1 : (((w.alloc (.chan r #[] false 0 0 false)).alloc (.chan r #[] false 0 0 false)).alloc (.cells #[.chan (some a), .chan (some b), .bool false] 49)).heap[w.heap.size + 1]? = some (.chan r #[] false 0 0 false) := (Below.heap_alloc _ _ _ (by rw [s2]; omega)).trans k1
  rw [← hW] at k2 j0 j1
  rcases hab with ⟨rfl, rfl⟩ | ⟨rfl, rfl⟩
  · exact ⟨k2, ⟨0, 0, j0⟩, ⟨0, 0, j1⟩, by omega⟩
  · exact ⟨k2, ⟨0, 0, j1⟩, ⟨0, 0, j0⟩, by omega⟩
theorem new_ok (n : Int) (w : World) (h1 : 1 ≤ n) (h2 : n ≤ 256) : Calls Try.prog 6 #[.int .i64 n] w fun e w' => ∃ cu cn, e = .returned (.tuple #[.pointer (some ⟨w.heap.size + 2, 0, none⟩), .int .i64 0]) ∧ In w' (w.heap.size + 2) cu cn n.toNat false [] [] ∧ w.heap.size ≤ cu ∧ w.heap.size ≤ cn ∧ Below w.heap.size w w' := by
  have hmc := mkc n (by omega) h2
  have h3 : ¬ n < 1 := by omega
  have h4 : ¬ 256 < n := by omega
  have HB : Hid (∀ (W : World) (a b : Nat) (o : Obj), W.heap = (((w.alloc (.chan n.toNat #[] false 0 0 false)).alloc (.chan n.toNat #[] false 0 0 false)).alloc o).heap → W.os = w.os → W.tape = w.tape → W.output = w.output → Below w.heap.size w W) := fun W a b o h a1 a2 a3 => ⟨a1, a2, a3, by rw [h]; simp; omega, fun k hk => by rw [h]; exact (Below.heap_alloc _ _ _ (by simp; omega)).trans ((Below.heap_alloc _ _ _ (by simp; omega)).trans (Below.heap_alloc _ _ _ hk))⟩
  go_enter Try.func6, Try.ntmps6
  go_wp2
  go_region
  · go_wp2
    go_ret2
    exact ⟨w.heap.size, w.heap.size + 1, rfl, in_new w _ _ _ _ (.inl ⟨rfl, rfl⟩) rfl, by omega, by omega, HB.out _ 0 0 _ rfl rfl rfl rfl⟩
  · go_wp2
    go_ret2
    exact ⟨w.heap.size + 1, w.heap.size, rfl, in_new w _ _ _ _ (.inr ⟨rfl, rfl⟩) rfl, by omega, by omega, HB.out _ 0 0 _ rfl rfl rfl rfl⟩
theorem close_nil (w : World) : Calls Try.prog 15 #[.pointer none] w fun e w' => e = .returned (.tuple #[]) ∧ w' = w := by
  go_enter Try.func15, Try.ntmps15
  go_wp2
  go_end0
  exact ⟨rfl, rfl⟩
theorem close_any (B cu cn room : Nat) (cl : Bool) (U N : List ByteArray) (w : World) (h : In w B cu cn room cl U N) : Calls Try.prog 15 #[.pointer (some ⟨B, 0, none⟩)] w fun e w' => e = .returned (.tuple #[]) ∧ In w' B cu cn room true U N ∧ Oth B cu cn w w' := by
  obtain ⟨c0, c1, c2⟩ := h.cells
  have g2 : w.frozen? ⟨B, 2, none⟩ = false := by simp [World.frozen?, h.bx]
  have HI : Hid (∀ v, In (w.setCell ⟨B, 2, none⟩ (.bool v)) B cu cn room v U N ∧ Oth B cu cn w (w.setCell ⟨B, 2, none⟩ (.bool v))) := fun v => by
    obtain ⟨s1, r1, e1⟩ := h.u
    obtain ⟨s2, r2, e2⟩ := h.n
    have n1 : cu ≠ B := fun e => by rw [e, h.bx] at e1; cases e1
    have n2 : cn ≠ B := fun e => by rw [e, h.bx] at e2; cases e2
    refine ⟨⟨by simp [World.setCell, Array.getElem?_modify, h.bx], ⟨s1, r1, (Below.heap_setCell _ _ _ _ n1).trans e1⟩, ⟨s2, r2, (Below.heap_setCell _ _ _ _ n2).trans e2⟩, h.ne⟩, ⟨rfl, rfl, rfl, by simp [World.setCell], fun k _ hk _ _ => Below.heap_setCell _ _ _ _ hk⟩⟩
  clear h
  go_enter Try.func15, Try.ntmps15
  go_wp2
  go_end0
  exact ⟨rfl, HI.out true⟩
theorem len_any (B cu cn room : Nat) (cl : Bool) (U N : List ByteArray) (w : World) (h : In w B cu cn room cl U N) : Calls Try.prog 10 #[.pointer (some ⟨B, 0, none⟩)] w fun e w' => e = .returned (.tuple #[.int .i64 U.length, .int .i64 N.length]) ∧ In w' B cu cn room cl U N ∧ Oth B cu cn w w' := by
  have H : Hid (In w B cu cn room cl U N) := h
  clear h
  go_enter Try.func10, Try.ntmps10
  go_wp2_with fail
  refine (rows_any B cu cn room cl U N _ H.out).mono ?_
  rintro e w1 ⟨rfl, hb, hh⟩
  have HB : Hid (In w1 B cu cn room cl U N ∧ Oth B cu cn w w1) := ⟨H.out.heap hh, Oth.of hb⟩
  obtain ⟨s1, r1, e1⟩ := HB.out.1.u
  obtain ⟨s2, r2, e2⟩ := HB.out.1.n
  have l1 := fun ty => run_len_chan (P := Try.prog) 47 ty Try.underlying47 e1
  have l2 := fun ty => run_len_chan (P := Try.prog) 47 ty Try.underlying47 e2
  rw [vs_size] at l1 l2
  clear hb hh e1 e2
  go_wp2
  go_ret2
  exact ⟨rfl, HB.out⟩
def tkS : List ByteArray → List ByteArray → ByteArray
  | x :: _, _ => x
  | [], x :: _ => x
  | [], [] => ⟨#[]⟩
def tkB (U : List ByteArray) : Bool := !U.isEmpty
def tkE : List ByteArray → List ByteArray → Int
  | [], [] => 6
  | _, _ => 0
def tkN : List ByteArray → List ByteArray → List ByteArray
  | [], N => N.tail
  | _, N => N
set_option maxHeartbeats 1000000 in
theorem take_any (B cu cn room : Nat) (cl : Bool) (U N : List ByteArray) (w : World) (h : In w B cu cn room cl U N) : Calls Try.prog 12 #[.pointer (some ⟨B, 0, none⟩)] w fun e w' => e = .returned (.tuple #[.string (tkS U N), .bool (tkB U), .int .i64 (tkE U N)]) ∧ In w' B cu cn room cl U.tail (tkN U N) ∧ Oth B cu cn w w' := by
  have H : Hid (In w B cu cn room cl U N) := h
  clear h
  go_enter Try.func12, Try.ntmps12
  go_wp2_with fail
  refine (rows_any B cu cn room cl U N _ H.out).mono ?_
  rintro e w1 ⟨rfl, hb, hh⟩
  have HB : Hid (In w1 B cu cn room cl U N ∧ Oth B cu cn w w1) := ⟨H.out.heap hh, Oth.of hb⟩
  obtain ⟨s1, r1, e1⟩ := HB.out.1.u
  obtain ⟨s2, r2, e2⟩ := HB.out.1.n
  have E1 : Hid (w1.heap[cu]? = some (.chan room (vs U) false s1 r1 false)) := e1
  have E2 : Hid (w1.heap[cn]? = some (.chan room (vs N) false s2 r2 false)) := e2
  clear hb hh e1 e2 H
  cases U with
  | cons x U =>
    go_wp2_with fail
    refine (first_some cu room s1 r1 false false x (vs (x :: U)) _ E1.out (by rw [vs_size]; simp) (vs_head x U)).mono ?_
    rintro e w2 ⟨rfl, hw2⟩
    rw [vs_pop] at hw2
    have HE : Hid (In w2 B cu cn room cl U N ∧ Oth B cu cn w w2) := by rw [hw2]; exact ⟨HB.out.1.setU U _ _, HB.out.2.trans (Oth.chan _ _ _ _ _ _ _ (.inl rfl))⟩
    clear hw2
    go_wp2
    go_ret3
    exact ⟨rfl, HE.out⟩
  | nil =>
    go_wp2_with fail
    refine (first_none cu room s1 r1 false _ E1.out).mono ?_
    rintro e w2 ⟨rfl, rfl⟩
    cases N with
    | cons x N =>
      go_wp2_with fail
      refine (first_some cn room s2 r2 false false x (vs (x :: N)) _ E2.out (by rw [vs_size]; simp) (vs_head x N)).mono ?_
      rintro e w2 ⟨rfl, hw2⟩
      rw [vs_pop] at hw2
      have HE : Hid (In w2 B cu cn room cl [] N ∧ Oth B cu cn w w2) := by rw [hw2]; exact ⟨HB.out.1.setN N _ _, HB.out.2.trans (Oth.chan _ _ _ _ _ _ _ (.inr rfl))⟩
      clear hw2
      go_wp2
      go_ret3
      exact ⟨rfl, HE.out⟩
    | nil =>
      go_wp2_with fail
      refine (first_none cn room s2 r2 false _ E2.out).mono ?_
      rintro e w2 ⟨rfl, rfl⟩
      go_wp2
      go_ret3
      exact ⟨rfl, HB.out⟩
theorem take_nil (w : World) : Calls Try.prog 12 #[.pointer none] w fun e w' => e = .returned (.tuple #[.string ⟨#[]⟩, .bool false, .int .i64 6]) ∧ w' = w := by
  go_enter Try.func12, Try.ntmps12
  go_wp2_with fail
  refine (rows_nil _).mono ?_
  rintro e w1 ⟨rfl, rfl⟩
  go_wp2_with fail
  refine (first_nil _).mono ?_
  rintro e w1 ⟨rfl, rfl⟩
  go_wp2_with fail
  refine (first_nil _).mono ?_
  rintro e w1 ⟨rfl, rfl⟩
  go_wp2
  go_ret3
  exact ⟨rfl, rfl⟩
theorem len_nil (w : World) : Calls Try.prog 10 #[.pointer none] w fun e w' => e = .returned (.tuple #[.int .i64 0, .int .i64 0]) ∧ w' = w := by
  go_enter Try.func10, Try.ntmps10
  go_wp2_with fail
  refine (rows_nil _).mono ?_
  rintro e w1 ⟨rfl, rfl⟩
  have hl : ∀ ty, (Builtin.len_ #[47] ty #[.chan none]).run Try.prog w1 = .ok (goInt 0) w1 := fun ty => by simp [Builtin.len_, run_underlying Try.underlying47]
  go_wp2
  go_ret2
  exact ⟨rfl, rfl⟩
end Go.Proofs.Ytocainggkdmojaa
