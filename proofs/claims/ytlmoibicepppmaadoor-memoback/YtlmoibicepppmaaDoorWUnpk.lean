/-
  memo.Unpack.
-/
import Derived.Test.YtlmoibicepppmaaDoorWUnp
import Derived.Test.YtlmoibicepppmaaDoorWBackP
import Derived.Test.YtlmoibicepppmaaDoorWPack
namespace Go.Proofs.YtlmoibicepppmaaDoor
open Go.ChangeShapes Go.WideShapes Go.ChangeAt Go.RowKit Go.Deep Me
set_option maxRecDepth 100000
theorem mat_zero (w : World) : MAt w Me.zero NS NS := ⟨.inl ⟨_, _, rfl, rfl⟩, .inl ⟨_, _, rfl, rfl⟩⟩
theorem whole_ok (s : ByteArray) (w : World) (hs : s.size ≤ 60000) (ht : Po.Tab w) : Calls Tryd.prog 52 #[.string s] w (Wq w s) := by
  have hl : (Po.Pl.ungOut s).data.toList.length = (Po.Pl.ungOut s).size := by simp
  have h1 := ung_le s
  have h2 := parse_len (Po.Pl.ungOut s).data.toList
  exact whole_any s w hs ht (fun x hx => parse_small _ _ _ x hx) (by omega) (by omega)
set_option maxRecDepth 100000 in
set_option maxRecDepth 100000 in
set_option maxHeartbeats 2000000 in
theorem unp_no (s : ByteArray) (w : World) (ht : Po.Tab w) (hn : unpE s ≠ 0) : Calls Tryd.prog 13 #[.string s] w fun e w' => e = .returned (.tuple #[VM Me.zero NS NS, .int .i64 (unpE s)]) ∧ Below w.heap.size w w' := by
  have hbx := heap_alloc_new w (BM Me.zero NS NS)
  have g0 := fr_at hbx 0
  have g1 := fr_at hbx 1
  have g2 := fr_at hbx 2
  have g3 := fr_at hbx 3
  have g4 := fr_at hbx 4
  have g5 := fr_at hbx 5
  have g6 := fr_at hbx 6
  have g7 := fr_at hbx 7
  have g8 := fr_at hbx 8
  have g9 := fr_at hbx 9
  have g10 := fr_at hbx 10
  have g11 := fr_at hbx 11
  have g12 := fr_at hbx 12
  have g13 := fr_at hbx 13
  have g14 := fr_at hbx 14
  obtain ⟨c0, c1, c2, c3, c4, c5, c6, c7, c8, c9, c10, c11, c12, c13, c14⟩ := mm_of hbx
  by_cases hs : 60000 < s.size
  · have HE : Hid (unpE s = 2) := by show _ = _; unfold unpE; rw [if_pos hs]
    have hs' : (60000 : Int) < (s.size : Int) := by omega
    clear hs hbx hn ht
    rw [HE.out]
    go_enter Tryd.func13, Tryd.ntmps13
    go_wp2
    (try simp only [Exit.inBlock, Exit.then])
    refine bodyPost_ret (v := .tuple #[VM Me.zero NS NS, .int .i64 2]) ?_ rfl ⟨rfl, below_alloc _ _⟩
    rw [results_cell_tmp rfl]
    go_simp
    exact ⟨rfl, rfl, rfl, rfl, rfl, rfl, rfl, rfl, rfl, rfl, rfl, rfl, rfl⟩
  · have hp : pWhole s = none := by
      unfold unpE at hn
      rw [if_neg hs] at hn
      cases hp : pWhole s with
      | none => rfl
      | some m => rw [hp] at hn; exact absurd rfl hn
    have HE : Hid (unpE s = 4) := by show _ = _; unfold unpE; rw [if_neg hs, hp]; rfl
    have hs' : ¬ (60000 : Int) < (s.size : Int) := by omega
    have HR : Hid (∀ x : World, Po.Tab x → Calls Tryd.prog 34 #[.string s] x fun e w' => e = .returned (.tuple #[VM Me.zero NS NS, .bool false]) ∧ Below x.heap.size x w') := fun x hx => read_no s x (whole_ok s _ (by omega) (tab_up hx (below_alloc _ _))) hp
    have HT : Hid (Po.Tab (w.alloc (BM Me.zero NS NS))) := tab_up ht (below_alloc _ _)
    have HX : Hid ((w.alloc (BM Me.zero NS NS)).heap[w.heap.size]? = some (BM Me.zero NS NS)) := hbx
    clear hs hbx hn ht hp
    rw [HE.out]
    go_enter Tryd.func13, Tryd.ntmps13
    go_wp2_with fail
    refine (HR.out _ HT.out).mono ?_
    rintro e w1 ⟨rfl, hb1⟩
    have hbx := blk (blk HX.out hb1) (below_alloc w1 (BM Me.zero NS NS))
    have g0 := fr_at hbx 0
    have g1 := fr_at hbx 1
    have g2 := fr_at hbx 2
    have g3 := fr_at hbx 3
    have g4 := fr_at hbx 4
    have g5 := fr_at hbx 5
    have g6 := fr_at hbx 6
    have g7 := fr_at hbx 7
    have g8 := fr_at hbx 8
    have g9 := fr_at hbx 9
    have g10 := fr_at hbx 10
    have g11 := fr_at hbx 11
    have g12 := fr_at hbx 12
    have g13 := fr_at hbx 13
    have g14 := fr_at hbx 14
    obtain ⟨c0, c1, c2, c3, c4, c5, c6, c7, c8, c9, c10, c11, c12, c13, c14⟩ := mm_of hbx
    have HG2 : Hid (∀ w2, (w1.alloc (BM Me.zero NS NS)).grownBy w2 (some w.heap.size) → Below w.heap.size w w2) := fun w2 hg => below_grown (bup (bup (below_alloc _ _) hb1) (below_alloc _ _)) hg (Nat.le_refl _) (bup (bup (below_alloc w (BM Me.zero NS NS)) hb1) (below_alloc _ _)).size
    clear hb1 hbx
    go_wp2
    (try simp only [Exit.inBlock, Exit.then])
    refine bodyPost_ret (v := .tuple #[VM Me.zero NS NS, .int .i64 4]) ?_ rfl ⟨rfl, HG2.out _ (grown_trans (grown_trans (grown_trans (grown_trans (grown_trans (grown_trans (grown_trans (grown_trans (grown_trans (grown_trans (grown_trans (grown_trans (grown_trans (grown_trans (grown_set1 _ _ _ _) (grown_set1 _ _ _ _)) (grown_set1 _ _ _ _)) (grown_set1 _ _ _ _)) (grown_set1 _ _ _ _)) (grown_set1 _ _ _ _)) (grown_set1 _ _ _ _)) (grown_set1 _ _ _ _)) (grown_set1 _ _ _ _)) (grown_set1 _ _ _ _)) (grown_set1 _ _ _ _)) (grown_set1 _ _ _ _)) (grown_set1 _ _ _ _)) (grown_set1 _ _ _ _)) (grown_set1 _ _ _ _))⟩
    rw [results_cell_tmp rfl]
    go_simp
    exact ⟨rfl, rfl, rfl, rfl, rfl, rfl, rfl, rfl, rfl, rfl, rfl, rfl, rfl⟩
set_option maxRecDepth 100000 in
set_option maxRecDepth 100000 in
set_option maxHeartbeats 2000000 in
theorem unp_yes (s : ByteArray) (m : Mm) (w : World) (ht : Po.Tab w) (hs : s.size ≤ 60000) (hp : pWhole s = some m) : Calls Tryd.prog 13 #[.string s] w fun e w' => (∃ u z, e = .returned (.tuple #[VM m u z, .int .i64 0]) ∧ MAt w' m u z) ∧ Below w.heap.size w w' := by
  have hs' : ¬ (60000 : Int) < (s.size : Int) := by omega
  have HR : Hid (∀ x : World, Po.Tab x → Calls Tryd.prog 34 #[.string s] x fun e w' => (∃ u z, e = .returned (.tuple #[VM m u z, .bool true]) ∧ At EI (fun b => x.heap.size ≤ b) w' u m.lives ∧ At EM (fun b => x.heap.size ≤ b) w' z m.items) ∧ Below x.heap.size x w') := fun x hx => read_yes s m x (whole_ok s _ hs (tab_up hx (below_alloc _ _))) hp
  have HT : Hid (Po.Tab (w.alloc (BM Me.zero NS NS))) := tab_up ht (below_alloc _ _)
  have HX : Hid ((w.alloc (BM Me.zero NS NS)).heap[w.heap.size]? = some (BM Me.zero NS NS)) := heap_alloc_new _ _
  clear hs ht hp
  go_enter Tryd.func13, Tryd.ntmps13
  go_wp2_with fail
  refine (HR.out _ HT.out).mono ?_
  rintro e w1 ⟨⟨u, z, rfl, hu, hz⟩, hb1⟩
  obtain ⟨ao1, cap1, rfl, -, -⟩ := hu.open
  obtain ⟨ao2, cap2, rfl, -, -⟩ := hz.open
  generalize m.lives.length = n1 at *
  generalize m.items.length = n2 at *
  have hbx := blk (blk HX.out hb1) (below_alloc w1 (BM m (.slice ao1 n1 cap1) (.slice ao2 n2 cap2)))
  have g0 := fr_at hbx 0
  have g1 := fr_at hbx 1
  have g2 := fr_at hbx 2
  have g3 := fr_at hbx 3
  have g4 := fr_at hbx 4
  have g5 := fr_at hbx 5
  have g6 := fr_at hbx 6
  have g7 := fr_at hbx 7
  have g8 := fr_at hbx 8
  have g9 := fr_at hbx 9
  have g10 := fr_at hbx 10
  have g11 := fr_at hbx 11
  have g12 := fr_at hbx 12
  have g13 := fr_at hbx 13
  have g14 := fr_at hbx 14
  obtain ⟨c0, c1, c2, c3, c4, c5, c6, c7, c8, c9, c10, c11, c12, c13, c14⟩ := mm_of hbx
  obtain ⟨dd0, dd1, dd2, dd3, dd4, dd5, dd6, dd7, dd8, dd9, dd10, dd11, dd12, dd13, dd14⟩ := mm_of (heap_alloc_new w1 (BM m (.slice ao1 n1 cap1) (.slice ao2 n2 cap2)))
  have hlt : w.heap.size < w1.heap.size := by have := hb1.size; simp at this; omega
  have hrl : ¬ w.heap.size = w1.heap.size := by omega
  have hrl2 : ¬ w1.heap.size = w.heap.size := by omega
  have HG2 : Hid (∀ w2, (w1.alloc (BM m (.slice ao1 n1 cap1) (.slice ao2 n2 cap2))).grownBy w2 (some w.heap.size) → MAt w2 m (.slice ao1 n1 cap1) (.slice ao2 n2 cap2) ∧ Below w.heap.size w w2) := fun w2 hg => ⟨⟨atw (At.grown_low (hu.up (below_alloc _ _)) (by simp) hg), atw (At.grown_low (hz.up (below_alloc _ _)) (by simp) hg)⟩, below_grown (bup (bup (below_alloc _ _) hb1) (below_alloc _ _)) hg (Nat.le_refl _) (bup (bup (below_alloc w (BM Me.zero NS NS)) hb1) (below_alloc _ _)).size⟩
  clear hb1 hbx hu hz hlt
  go_wp2
  (try simp only [Exit.inBlock, Exit.then])
  refine bodyPost_ret (v := .tuple #[VM m (.slice ao1 n1 cap1) (.slice ao2 n2 cap2), .int .i64 0]) ?_ rfl ⟨⟨_, _, rfl, (HG2.out _ (grown_trans (grown_trans (grown_trans (grown_trans (grown_trans (grown_trans (grown_trans (grown_trans (grown_trans (grown_trans (grown_trans (grown_trans (grown_trans (grown_trans (grown_set1 _ _ _ _) (grown_set1 _ _ _ _)) (grown_set1 _ _ _ _)) (grown_set1 _ _ _ _)) (grown_set1 _ _ _ _)) (grown_set1 _ _ _ _)) (grown_set1 _ _ _ _)) (grown_set1 _ _ _ _)) (grown_set1 _ _ _ _)) (grown_set1 _ _ _ _)) (grown_set1 _ _ _ _)) (grown_set1 _ _ _ _)) (grown_set1 _ _ _ _)) (grown_set1 _ _ _ _)) (grown_set1 _ _ _ _))).1⟩, (HG2.out _ (grown_trans (grown_trans (grown_trans (grown_trans (grown_trans (grown_trans (grown_trans (grown_trans (grown_trans (grown_trans (grown_trans (grown_trans (grown_trans (grown_trans (grown_set1 _ _ _ _) (grown_set1 _ _ _ _)) (grown_set1 _ _ _ _)) (grown_set1 _ _ _ _)) (grown_set1 _ _ _ _)) (grown_set1 _ _ _ _)) (grown_set1 _ _ _ _)) (grown_set1 _ _ _ _)) (grown_set1 _ _ _ _)) (grown_set1 _ _ _ _)) (grown_set1 _ _ _ _)) (grown_set1 _ _ _ _)) (grown_set1 _ _ _ _)) (grown_set1 _ _ _ _)) (grown_set1 _ _ _ _))).2⟩
  rw [results_cell_tmp rfl]
  go_simp
/-- memo.Unpack. -/
theorem munpack_any (s : ByteArray) (w : World) (ht : Po.Tab w) : Calls Tryd.prog 13 #[.string s] w fun e w' => (∃ u z, e = .returned (.tuple #[VM (unpM s) u z, .int .i64 (unpE s)]) ∧ MAt w' (unpM s) u z) ∧ Below w.heap.size w w' := by
  by_cases h : unpE s = 0
  · obtain ⟨hr, hp, hs⟩ := unp_ok h
    have hw : pWhole s = some (unpM s) := by
      have := whole_packed hr
      rwa [hp] at this
    rw [h]
    exact unp_yes s _ w ht hs hw
  · rw [unp_bad h]
    refine (unp_no s w ht h).mono ?_
    rintro e w' ⟨rfl, hb⟩
    exact ⟨⟨_, _, rfl, mat_zero _⟩, hb⟩
end Go.Proofs.YtlmoibicepppmaaDoor
