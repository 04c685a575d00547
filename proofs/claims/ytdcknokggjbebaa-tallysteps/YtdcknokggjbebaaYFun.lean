/-
  tally's functions: what each answers and leaves, at any tally.
-/
import Derived.Test.YtdcknokggjbebaaYAt
namespace Go.Proofs.Ytdcknokggjbebaa
open Go.ChangeShapes Go.WideShapes Go.ChangeAt Go.RowKit Go.Deep
theorem tnew_no {n : Int} (w : World) (h : Pn.No n) : Calls Try.prog 7 #[.int .i64 n] w fun e w' => e = .returned (.tuple #[.pointer none, .int .i64 1]) ∧ w' = w := by
  have H : Hid (Pn.No n) := h
  clear h
  go_enter Try.func7, Try.ntmps7
  go_wp2_with fail
  refine (faults_no _ H.out).mono ?_
  rintro e w' ⟨rfl, rfl⟩
  go_wp2
  go_ret2
  exact ⟨rfl, rfl⟩
theorem tnew_yes {n f : Int} (w : World) (h : Pn.Is n f) : Calls Try.prog 7 #[.int .i64 n] w fun e w' => e = .returned (.tuple #[.pointer (some ⟨w.heap.size + 1, 0, none⟩), .int .i64 0]) ∧ TA w' (w.heap.size + 1) w.heap.size n f [] ∧ w.grownBy w' none := by
  have H : Hid (Pn.Is n f) := h
  have hmm := @run_makeMap Try.prog
  clear h
  go_enter Try.func7, Try.ntmps7
  go_wp2_with fail
  refine (faults_yes _ H.out).mono ?_
  rintro e w' ⟨rfl, rfl⟩
  go_wp2
  go_ret2
  refine ⟨rfl, ⟨H.out, ?_, ?_, List.Pairwise.nil, fun x hx => (by cases hx), [], ?_, List.Perm.refl _⟩, ?_⟩
  · rw [World.cell?_alloc_at _ _ _ _ (by simp)]; rfl
  · rw [World.cell?_alloc_at _ _ _ _ (by simp)]; rfl
  · exact (IM.new w').kept (Below.heap_alloc _ _ _ (by simp))
  · exact grown_trans (World.grownBy_alloc w' _ none) (World.grownBy_alloc _ _ none)
theorem tnodes_nil (w : World) : Calls Try.prog 30 #[.pointer none] w fun e w' => e = .returned (.int .i64 0) ∧ w' = w := by
  go_enter Try.func30, Try.ntmps30
  go_wp2
  go_ret
  exact ⟨rfl, rfl⟩
theorem tnodes_any {s : Nat} {m : Int} (w : World) (h : w.cell? ⟨s, 0, none⟩ = some (.int .i64 m)) : Calls Try.prog 30 #[.pointer (some ⟨s, 0, none⟩)] w fun e w' => e = .returned (.int .i64 m) ∧ w' = w := by
  go_enter Try.func30, Try.ntmps30
  go_wp2
  go_ret
  exact ⟨rfl, rfl⟩
theorem tisNode_nil (k : Int) (w : World) : Calls Try.prog 25 #[.pointer none, .int .i64 k] w fun e w' => e = .returned (.bool false) ∧ w' = w := by
  by_cases h0 : 0 ≤ k
  · have h1 : decide (k < 0) = false := by simp; omega
    go_enter Try.func25, Try.ntmps25
    go_wp2_with fail
    refine (tnodes_nil _).mono ?_
    rintro e w' ⟨rfl, rfl⟩
    go_wp2
    go_ret
    exact ⟨rfl, rfl⟩
  · go_enter Try.func25, Try.ntmps25
    go_wp2
    go_ret
    exact ⟨rfl, rfl⟩
theorem tisNode_yes {s : Nat} {m k : Int} (w : World) (h : w.cell? ⟨s, 0, none⟩ = some (.int .i64 m)) (hk : 0 ≤ k ∧ k < m) : Calls Try.prog 25 #[.pointer (some ⟨s, 0, none⟩), .int .i64 k] w fun e w' => e = .returned (.bool true) ∧ w' = w := by
  obtain ⟨h0, h1⟩ := hk
  go_enter Try.func25, Try.ntmps25
  go_wp2_with fail
  refine (tnodes_any _ h).mono ?_
  rintro e w' ⟨rfl, rfl⟩
  go_wp2
  go_ret
  exact ⟨rfl, rfl⟩
theorem tisNode_no {s : Nat} {m k : Int} (w : World) (h : w.cell? ⟨s, 0, none⟩ = some (.int .i64 m)) (hk : ¬ (0 ≤ k ∧ k < m)) : Calls Try.prog 25 #[.pointer (some ⟨s, 0, none⟩), .int .i64 k] w fun e w' => e = .returned (.bool false) ∧ w' = w := by
  by_cases h0 : 0 ≤ k
  · have h1 : decide (k < m) = false := by simp; exact Int.not_lt.1 fun h1 => hk ⟨h0, h1⟩
    clear hk
    go_enter Try.func25, Try.ntmps25
    go_wp2_with fail
    refine (tnodes_any _ h).mono ?_
    rintro e w' ⟨rfl, rfl⟩
    go_wp2
    go_ret
    exact ⟨rfl, rfl⟩
  · clear hk
    go_enter Try.func25, Try.ntmps25
    go_wp2
    go_ret
    exact ⟨rfl, rfl⟩
def Ty.big (x : Int) : Prop := 0 ≤ x ∧ x ≤ 1099511627776
theorem tfits_yes {x : Int} (w : World) (h : Ty.big x) : Calls Try.prog 26 #[.int .i64 x] w fun e w' => e = .returned (.bool true) ∧ w' = w := by
  obtain ⟨h1, h2⟩ := h
  go_enter Try.func26, Try.ntmps26
  go_wp2
  go_ret
  exact ⟨rfl, rfl⟩
theorem tfits_no {x : Int} (w : World) (h : ¬ Ty.big x) : Calls Try.prog 26 #[.int .i64 x] w fun e w' => e = .returned (.bool false) ∧ w' = w := by
  by_cases h1 : 0 ≤ x
  · have h2 : ¬ x ≤ 1099511627776 := fun h2 => h ⟨h1, h2⟩
    clear h
    go_enter Try.func26, Try.ntmps26
    go_wp2
    go_ret
    exact ⟨rfl, rfl⟩
  · clear h
    go_enter Try.func26, Try.ntmps26
    go_wp2
    go_ret
    exact ⟨rfl, rfl⟩
theorem tforget_nil (k : Int) (w : World) : Calls Try.prog 13 #[.pointer none, .int .i64 k] w fun e w' => e = .returned (.tuple #[.bool false, .int .i64 1]) ∧ w' = w := by
  go_enter Try.func13, Try.ntmps13
  go_wp2_with fail
  refine (tisNode_nil _ _).mono ?_
  rintro e w' ⟨rfl, rfl⟩
  go_wp2
  go_ret2
  exact ⟨rfl, rfl⟩
theorem tforget_no {s bm : Nat} {m f k : Int} {L : List Bd} (w : World) (h : TA w s bm m f L) (hk : ¬ (0 ≤ k ∧ k < m)) : Calls Try.prog 13 #[.pointer (some ⟨s, 0, none⟩), .int .i64 k] w fun e w' => e = .returned (.tuple #[.bool false, .int .i64 1]) ∧ w' = w := by
  have H : Hid (TA w s bm m f L) := h
  have HK : Hid (¬ (0 ≤ k ∧ k < m)) := hk
  clear h hk
  go_enter Try.func13, Try.ntmps13
  go_wp2_with fail
  refine (tisNode_no _ H.out.c0 HK.out).mono ?_
  rintro e w' ⟨rfl, rfl⟩
  go_wp2
  go_ret2
  exact ⟨rfl, rfl⟩
theorem tforget_yes {s bm : Nat} {m f k : Int} {L : List Bd} (w : World) (h : TA w s bm m f L) (hk : 0 ≤ k ∧ k < m) : Calls Try.prog 13 #[.pointer (some ⟨s, 0, none⟩), .int .i64 k] w fun e w' => e = .returned (.tuple #[.bool (Ty.has L k), .int .i64 0]) ∧ TA w' s bm m f (Ty.del L k) ∧ w.grownBy w' (some bm) := by
  have H : Hid (TA w s bm m f L) := h
  have HK : Hid (0 ≤ k ∧ k < m) := hk
  have hl := h.ma.look2 k
  have c1 := h.c1
  obtain ⟨g, hg⟩ : ∃ g, Ty.get L k = g := ⟨_, rfl⟩
  rw [hg] at hl
  have HW : Hid (TA (w.alloc (BB g)) s bm m f L) := h.still (World.grownBy_alloc _ _ none)
  have c1' : (w.alloc (BB g)).cell? ⟨s, 1, none⟩ = some (.map (some bm)) := HW.out.c1
  obtain ⟨M, hM, hp⟩ := HW.out.ma.map
  have HM : Hid (IM (w.alloc (BB g)) bm (rows M)) := hM
  have HP : Hid (M.Perm L) := hp
  clear h hk hM hp hg
  go_enter Try.func13, Try.ntmps13
  go_wp2_with fail
  refine (tisNode_yes _ H.out.c0 HK.out).mono ?_
  rintro e w' ⟨rfl, rfl⟩
  go_wp2_with (first | (at_delete; refine wpList_idel Try.underlying63 _ rfl _ _ 3 rfl bm (rows M) k rfl rfl HM.out ?_; intro w1 hm1 hg1) | go_in)
  go_ret2
  exact ⟨rfl, HW.out.put hg1 (HW.out.ma.del HP.out k hm1), grown_trans (grown_any (World.grownBy_alloc _ _ none) _) hg1⟩
theorem tbetter_any (a b : Bd) (w : World) : Calls Try.prog 28 #[VB a, VB b] w fun e w' => e = .returned (.bool (Ty.bet a b)) ∧ w.grownBy w' none := by
  have hg : w.grownBy ((w.alloc (BB a)).alloc (BB b)) none := grown_trans (World.grownBy_alloc _ _ none) (World.grownBy_alloc _ _ none)
  have HG : Hid (w.grownBy ((w.alloc (BB a)).alloc (BB b)) none) := hg
  unfold Ty.bet
  clear hg
  by_cases e1 : a.2.1 = b.2.1
  · rw [if_pos e1]
    by_cases e2 : a.2.2 = b.2.2
    · rw [if_pos e2]
      have e1' : (a.2.1 != b.2.1) = false := by simp [e1]
      have e2' : (a.2.2 != b.2.2) = false := by simp [e2]
      clear e1 e2
      go_enter Try.func28, Try.ntmps28
      go_wp2
      go_ret
      exact ⟨rfl, HG.out⟩
    · rw [if_neg e2]
      have e1' : (a.2.1 != b.2.1) = false := by simp [e1]
      have e2' : (a.2.2 != b.2.2) = true := by simp [e2]
      clear e1 e2
      go_enter Try.func28, Try.ntmps28
      go_wp2
      go_ret
      exact ⟨rfl, HG.out⟩
  · rw [if_neg e1]
    have e1' : (a.2.1 != b.2.1) = true := by simp [e1]
    clear e1
    go_enter Try.func28, Try.ntmps28
    go_wp2
    go_ret
    exact ⟨rfl, HG.out⟩
end Go.Proofs.Ytdcknokggjbebaa
