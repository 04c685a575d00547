/-
  memo.read: the memo that bytes are, and whether they are one's.
-/
import Derived.Test.YtlmoibicepppmaaDoorWWhole
namespace Go.Proofs.YtlmoibicepppmaaDoor
open Go.ChangeShapes Go.WideShapes Go.ChangeAt Go.RowKit Go.Deep Me
set_option maxRecDepth 100000
set_option maxRecDepth 100000 in
set_option maxRecDepth 100000 in
set_option maxHeartbeats 2000000 in
theorem read_no (s : ByteArray) (w : World) (hw : Calls Tryd.prog 52 #[.string s] (w.alloc (BM Me.zero NS NS)) (Wq (w.alloc (BM Me.zero NS NS)) s)) (hp : pWhole s = none) : Calls Tryd.prog 34 #[.string s] w fun e w' => e = .returned (.tuple #[VM Me.zero NS NS, .bool false]) ∧ Below w.heap.size w w' := by
  have HW : Hid (Calls Tryd.prog 52 #[.string s] (w.alloc (BM Me.zero NS NS)) (Wq (w.alloc (BM Me.zero NS NS)) s)) := hw
  have HP : Hid (pWhole s = none) := hp
  have hmf : ∀ (fn : Fn) (first cap : Array Value) (w : World), (Instr.makeFunc fn first cap).run Tryd.prog w = .ok (.func fn first cap) w := fun _ _ _ _ => rfl
  clear hw hp
  go_enter_defers Tryd.func34, Tryd.ntmps34
  go_wp2_with fail
  refine HW.out.mono ?_
  rintro e w1 ⟨hb, -, hn⟩
  obtain rfl := hn HP.out
  have HB : Hid (Below w.heap.size w w1) := bup (below_alloc _ _) hb
  have HR : Hid (w1.heap[w.heap.size]? = some (BM Me.zero NS NS)) := blk (heap_alloc_new _ _) hb
  clear hb hn
  go_wp2
  refine leaves_cons (f := 51) (args := #[]) (by simp) (by simp [go_sem]) ?_
  refine (catch_broken _).mono ?_
  rintro e u' w2 ⟨rfl, rfl, hb2⟩
  obtain ⟨c0, c1, c2, c3, c4, c5, c6, c7, c8, c9, c10, c11, c12, c13, c14⟩ := mm_of (blk HR.out hb2)
  have HB2 : Hid (Below w.heap.size w w2) := bup HB.out hb2
  simp [Leaves, settle, results, Tryd.results34, go_sem, c0, c1, c2, c3, c4, c5, c6, c7, c8, c9, c10, c11, c12, c13, c14]
  exact HB2.out
theorem At.grown_low {α : Type} {E : Enc α} {w w' : World} {v : Value} {l : List α} {R B : Nat} (h : At E (fun b => B ≤ b) w v l) (hR : R < B) (hg : w.grownBy w' (some R)) : At E (fun b => R ≤ b) w' v l :=
  (h.keep (T := fun b => R ≤ b) hg.size fun b hS hb => ⟨hg.block b hb (by simp; omega), by omega⟩)
set_option maxRecDepth 100000 in
set_option maxRecDepth 100000 in
set_option maxHeartbeats 4000000 in
theorem read_yes (s : ByteArray) (m : Mm) (w : World) (hw : Calls Tryd.prog 52 #[.string s] (w.alloc (BM Me.zero NS NS)) (Wq (w.alloc (BM Me.zero NS NS)) s)) (hp : pWhole s = some m) : Calls Tryd.prog 34 #[.string s] w fun e w' => (∃ u z, e = .returned (.tuple #[VM m u z, .bool true]) ∧ At EI (fun b => w.heap.size ≤ b) w' u m.lives ∧ At EM (fun b => w.heap.size ≤ b) w' z m.items) ∧ Below w.heap.size w w' := by
  have HW : Hid (Calls Tryd.prog 52 #[.string s] (w.alloc (BM Me.zero NS NS)) (Wq (w.alloc (BM Me.zero NS NS)) s)) := hw
  have HP : Hid (pWhole s = some m) := hp
  have hmf : ∀ (fn : Fn) (first cap : Array Value) (w : World), (Instr.makeFunc fn first cap).run Tryd.prog w = .ok (.func fn first cap) w := fun _ _ _ _ => rfl
  clear hw hp
  go_enter_defers Tryd.func34, Tryd.ntmps34
  go_wp2_with fail
  refine HW.out.mono ?_
  rintro e w1 ⟨hb, hy, -⟩
  obtain ⟨u, z, rfl, hu, hz⟩ := hy m HP.out
  obtain ⟨ao1, cap1, rfl, -, -⟩ := hu.open
  obtain ⟨ao2, cap2, rfl, -, -⟩ := hz.open
  generalize m.lives.length = n1 at *
  generalize m.items.length = n2 at *
  have HB : Hid (Below w.heap.size w w1) := bup (below_alloc _ _) hb
  have HU : Hid (At EI (fun b => (w.alloc (BM Me.zero NS NS)).heap.size ≤ b) w1 (.slice ao1 n1 cap1) m.lives ∧ At EM (fun b => (w.alloc (BM Me.zero NS NS)).heap.size ≤ b) w1 (.slice ao2 n2 cap2) m.items) := ⟨hu, hz⟩
  have hr : w1.heap[w.heap.size]? = some (BM Me.zero NS NS) := blk (heap_alloc_new _ _) hb
  obtain ⟨c0, c1, c2, c3, c4, c5, c6, c7, c8, c9, c10, c11, c12, c13, c14⟩ := mm_of hr
  have g0 := fr_at hr 0
  have g1 := fr_at hr 1
  have g2 := fr_at hr 2
  have g3 := fr_at hr 3
  have g4 := fr_at hr 4
  have g5 := fr_at hr 5
  have g6 := fr_at hr 6
  have g7 := fr_at hr 7
  have g8 := fr_at hr 8
  have g9 := fr_at hr 9
  have g10 := fr_at hr 10
  have g11 := fr_at hr 11
  have g12 := fr_at hr 12
  have g13 := fr_at hr 13
  have g14 := fr_at hr 14
  clear hb hy hu hz hr
  go_wp2
  refine leaves_cons (f := 51) (args := #[]) (by simp) (by simp [go_sem]) ?_
  refine (catch_idle _).mono ?_
  rintro e u' w2 ⟨rfl, rfl, rfl⟩
  have hend : ∀ w2, w1.grownBy w2 (some w.heap.size) → (At EI (fun b => w.heap.size ≤ b) w2 (.slice ao1 n1 cap1) m.lives ∧ At EM (fun b => w.heap.size ≤ b) w2 (.slice ao2 n2 cap2) m.items) ∧ Below w.heap.size w w2 := fun w2 hg => ⟨⟨At.grown_low HU.out.1 (by simp) hg, At.grown_low HU.out.2 (by simp) hg⟩, below_grown HB.out hg (Nat.le_refl _) HB.out.size⟩
  refine ⟨.tuple #[VM m (.slice ao1 n1 cap1) (.slice ao2 n2 cap2), .bool true], ?_, ⟨_, _, rfl, (hend _ (grown_trans (grown_trans (grown_trans (grown_trans (grown_trans (grown_trans (grown_trans (grown_trans (grown_trans (grown_trans (grown_trans (grown_trans (grown_trans (grown_trans (grown_set1 _ _ _ _) (grown_set1 _ _ _ _)) (grown_set1 _ _ _ _)) (grown_set1 _ _ _ _)) (grown_set1 _ _ _ _)) (grown_set1 _ _ _ _)) (grown_set1 _ _ _ _)) (grown_set1 _ _ _ _)) (grown_set1 _ _ _ _)) (grown_set1 _ _ _ _)) (grown_set1 _ _ _ _)) (grown_set1 _ _ _ _)) (grown_set1 _ _ _ _)) (grown_set1 _ _ _ _)) (grown_set1 _ _ _ _))).1⟩, (hend _ (grown_trans (grown_trans (grown_trans (grown_trans (grown_trans (grown_trans (grown_trans (grown_trans (grown_trans (grown_trans (grown_trans (grown_trans (grown_trans (grown_trans (grown_set1 _ _ _ _) (grown_set1 _ _ _ _)) (grown_set1 _ _ _ _)) (grown_set1 _ _ _ _)) (grown_set1 _ _ _ _)) (grown_set1 _ _ _ _)) (grown_set1 _ _ _ _)) (grown_set1 _ _ _ _)) (grown_set1 _ _ _ _)) (grown_set1 _ _ _ _)) (grown_set1 _ _ _ _)) (grown_set1 _ _ _ _)) (grown_set1 _ _ _ _)) (grown_set1 _ _ _ _)) (grown_set1 _ _ _ _))).2⟩
  rw [results_cell_tmp rfl]
  go_simp
end Go.Proofs.YtlmoibicepppmaaDoor
