/-
  blob.Cut: what it answers at any runs and size.
-/
import Derived.Test.YtkkaendfcfkbbaaOwn
import Derived.Maps.AppendAt
namespace Go.Proofs.Ytkkaendfcfkbbaa
open Go.RowKit Go.Shelf
attribute [local go_sem] Oper.semAt_some

/-- What Cut tells. -/
def Bl.cErr (l : List Bl.R) (size : Int) : Int := if Bl.right (-1) l then if size < 0 then 1 else 0 else 80
def Bl.cOut (l : List Bl.R) (size : Int) : List Bl.R := if Bl.cErr l size = 0 then Bl.within 0 size l else []
theorem two_newg (W : World) (a b : Value) (T : TypeId) : ∀ j u, [a, b][j]? = some u → (W.alloc (.cells #[a, b] T)).cell? ((⟨W.heap.size, 0, none⟩ : Addr).add j) = some u := two_new W _ rfl a b T

set_option maxHeartbeats 2000000 in
theorem cut_ok (v : Value) (l : List Bl.R) (size : Int) (w : World) (hv : FieldsAt w.heap.size w v l) (hok : okFields l) (hr : Bl.right (-1) l) (h0 : 0 ≤ size) :
    Calls Try.prog 20 #[v, .int .i64 size] w fun e w' => ∃ r, e = .returned (.tuple #[r, .int .i64 0]) ∧ w'.ownsRow w.heap.size 24 2 r (Bl.within 0 size l).length (cellsOf (Bl.within 0 size l)) ∧ Below w.heap.size w w' := by
  obtain ⟨i0, hi, hz0, hz1, hz2⟩ := info_parts infoRun
  have HE : Hid (Bl.err l = 0) := by show Bl.err l = 0; unfold Bl.err; rw [if_pos hr]
  have HV : Hid (FieldsAt w.heap.size w v l) := hv
  obtain ⟨ao, cap, rfl, hm, _⟩ := hv.open
  clear hv
  have h0' : ¬ size < 0 := by omega
  refine (callsIn_wide (n := 3)).1 ?_
  refine callsIn_of_wp_marks Try.func20 rfl trivial ?_ rfl
  simp only [Try.ntmps20, List.size_toArray, List.length_cons, List.length_nil, Nat.reduceAdd, Nat.reduceSub, Array.replicate_succ, Array.replicate_zero, List.push_toArray, List.append_toArray, List.nil_append, List.cons_append]
  refine wpIn_wide.2 ?_
  go_wp2_with fail
  refine (check_any _ l _ HV.out hok).mono ?_
  rintro e w1 ⟨rfl, hb1⟩
  rw [HE.out]
  go_wp2_with fail
  refine (within_any _ _ _ _ ⟨_, _, _, rfl⟩).mono ?_
  rintro e w2 ⟨rfl, rfl⟩
  go_wp2
  have hO : w.heap.size ≤ w1.heap.size := hb1.size
  have hl0 : l.length ≤ 1048577 := by
    have h : (l.length : Int) ≤ 1048576 - -1 := Bl.right_length hr (by decide)
    omega
  obtain ⟨n₀, hn₀⟩ : ∃ n₀, w.heap.size = n₀ := ⟨_, rfl⟩
  obtain ⟨O, hOO⟩ : ∃ O, w1.heap.size = O := ⟨_, rfl⟩
  obtain ⟨lv, hlv⟩ : ∃ lv, Value.slice ao l.length cap = lv := ⟨_, rfl⟩
  have b3 := three_new (w1.alloc (.cells #[.slice none 0 0] 22)) lv 0 size
  rw [World.size_alloc] at b3
  have bO := (((Boxed.new w1 22 (.slice none 0 0)).alloc (.cells #[lv] 22)).alloc (.cells #[.int .i64 0] 3)).alloc (.cells #[.int .i64 size] 3)
  have hB0 : Below w.heap.size w ((((w1.alloc (.cells #[.slice none 0 0] 22)).alloc (.cells #[lv] 22)).alloc (.cells #[.int .i64 0] 3)).alloc (.cells #[.int .i64 size] 3)) :=
    (((hb1.alloc hO _).alloc (by simp; omega) _).alloc (by simp; omega) _).alloc (by simp; omega) _
  have hsz : ((((w1.alloc (.cells #[.slice none 0 0] 22)).alloc (.cells #[lv] 22)).alloc (.cells #[.int .i64 0] 3)).alloc (.cells #[.int .i64 size] 3)).heap.size = w1.heap.size + 4 := by simp
  rw [hlv, hn₀] at HV
  rw [hlv]
  obtain ⟨W0, hW0⟩ : ∃ W0, ((((w1.alloc (.cells #[.slice none 0 0] 22)).alloc (.cells #[lv] 22)).alloc (.cells #[.int .i64 0] 3)).alloc (.cells #[.int .i64 size] 3)) = W0 := ⟨_, rfl⟩
  rw [hW0] at b3 bO hB0 hsz ⊢
  rw [hOO] at b3 bO hsz hO
  rw [hn₀] at hB0 hO
  have hF0 : FieldsAt n₀ W0 lv l := HV.out.below hB0 (Nat.le_refl _)
  rw [hOO]
  refine (wpIn_wide (n := 3)).1 ?_
  refine wpIn_rangeFunc_ownH rfl (by omega) (gf := 27) (lb := #[.pointer (some ⟨O + 1, 0, none⟩), .pointer (some ⟨O + 1 + 1, 0, none⟩), .pointer (some ⟨O + 1 + 1 + 1, 0, none⟩)]) rfl trivial (enters_of Try.func27 (by kernel_rfl) rfl)
    (iter_stops (3 - 1) (by omega) (O + 1) n₀ lv l 0 size hr W0 (by omega) (by omega) hF0 b3) (fun h k => keptK_t h k) (keptK_b (by omega) (by omega)) (Below.refl _ _) (fun _ => rfl)
    (fun pre W => ((∃ v, Boxed W O 22 v ∧ W.ownsRow n₀ 24 2 v pre.length (cellsOf (pre.map (·.1))) ∧ True) ∧ Three W (O + 1) lv 0 size) ∧ Below n₀ w W)
    (fun _ _ _ => False)
    (OwnFrom.and (OwnFrom.and (Own.from (holdsRow_own n₀ O 22 24 2 (fun pre : List (In 0 size) => pre.length) (fun pre => cellsOf (pre.map (·.1))) (fun _ _ => True)) _) (Own.from (three_own _ _ _ _) _)) (ownFrom_below (by omega) (by omega)))
    (fun _ _ _ _ _ hs _ _ => hs)
    ⟨⟨⟨_, bO, World.ownsRow_nil _ _ _ _, trivial⟩, b3⟩, hB0⟩
    (fun x a' W => ∃ Bx, W.heap[Bx]? = some (.cells #[.int .i64 x.1.1, .string x.1.2] 24 (0, 0)) ∧ a' = { tmps := #[lv, .int .i64 size, undef, undef, .slice none 0 0, .int .i64 0, .pointer (some ⟨O, 0, none⟩), .pointer (some ⟨Bx, 0, none⟩), .bool false, lv, .int .i64 0, .bool false, .bool (decide (size < 0)), .int .i64 size, .bool (decide (size < 0)), lv, .int .i64 size, .func (.func 27) #[] #[.pointer (some ⟨O + 1, 0, none⟩), .pointer (some ⟨O + 1 + 1, 0, none⟩), .pointer (some ⟨O + 1 + 1 + 1, 0, none⟩)], .agg #[.int .i64 x.1.1, .string x.1.2], undef, undef, undef, undef, undef], defers := [] })
    (fun x a' _ X Y row hs hg hr => by obtain ⟨Bx, h1, h2⟩ := hs; exact ⟨Bx, cells_own (β := Unit) Bx _ _ () X Y row h1 hg (fun r e => (hr r e).2), h2⟩)
    ?assign ?body ?done ?stop
  case assign =>
    rintro lp pre x W K ⟨⟨⟨v, bv, hv, _⟩, t3⟩, hB⟩ hK
    simp only [encs]
    gi_wp2
    refine hK _ _ ((KeepsOthers.alloc _ _).from _) (Kept.still (World.grownBy_alloc _ _ _)) ⟨⟨⟨v, bv.alloc _, hv.alloc _, trivial⟩, t3.alloc _⟩, hB.alloc (by have := hB.size; omega) _⟩ ⟨W.heap.size, heap_alloc_new _ _, rfl⟩
  case body =>
    rintro lp pre x a' W _ _ ⟨⟨⟨v, bv, hv, _⟩, t3⟩, hB⟩ ⟨Bx, hBx, rfl⟩ hlt
    have hsW : n₀ ≤ W.heap.size := by have := hB.size; omega
    have cO := bv.cell
    obtain ⟨x0, x1⟩ := two_of hBx
    gi_wp2_with (gi_at_builtin; refine wpListIn_append_own _ rfl _ _ 22 rfl n₀ 24 i0 (.agg #[.int .i64 0, .string ⟨#[]⟩]) 2 24 Try.underlying22 hi hz0 hz1 hz2 rfl (by decide) _ _ _ rfl (hv.alloc _) ⟨W.heap.size, 0, none⟩ 1 1 [.int .i64 x.1.1, .string x.1.2] rfl rfl (two_newg _ _ _ _) (one2 _ _) (by unfold maxLen; omega) (by omega) (by simp; omega) ?_; intro v' w' hown' hgrow' _; obtain ⟨g', cap', rfl⟩ := ownsRow_succ hown'; obtain ⟨k1, k2, k3, k4, k5⟩ := bv.appended (by decide) hv hsW hO hown' hgrow'; have k6 := fun B t u (ht : t ≠ 24) (hB : B ≠ O) (hb : Boxed W B t u) => ((hb.alloc _).kept hgrow' (hb.not_row ht hv)).other hB (.slice (some ⟨g', 0, none⟩) (pre.length + 1) cap'); have hc1 := k1.cell; have hf1 := k1.frozen)
    have t3' := (show Three _ (O + 1) lv 0 size from ⟨k6 _ _ _ (by decide) (by omega) t3.1, k6 _ _ _ (by decide) (by omega) t3.2.1, k6 _ _ _ (by decide) (by omega) t3.2.2⟩)
    exact ⟨k4.from _, t3.kept t3' k5, ⟨⟨_, k2, by rw [List.map_append, List.length_append, cellsOf_append]; exact k3, trivial⟩, t3'⟩, hB.trans k5⟩
  case done =>
    rintro D ys W hD hys ⟨⟨⟨v, bv, hv, _⟩, t3⟩, hB⟩ hK
    have hl := congrArg List.length hys
    rw [List.length_map] at hl
    rw [hys, hl] at hv
    have cO := bv.cell
    go_wp2
    refine ⟨by simp, .inl ⟨_, _, rfl, run_takeDeferred hK, ?_⟩⟩
    have hrow5 := ownsRow_putObj hv (.deferred none) hK rfl
    refine ⟨.tuple #[v, .int .i64 0], by simp [results, Try.results20, go_sem], ⟨v, rfl, ?_, ?_⟩⟩
    · rw [hn₀]
      exact hrow5
    · rw [hn₀]
      exact hB.trans (belowK_b (w := W0) (by omega) W D _ (.deferred none) (by omega) hK rfl rfl)
  case stop =>
    rintro D c pre W _ _ h _
    exact h.elim
theorem cut_any (v : Value) (l : List Bl.R) (size : Int) (w : World) (hv : FieldsAt w.heap.size w v l) (hok : okFields l) :
    Calls Try.prog 20 #[v, .int .i64 size] w fun e w' => ∃ r, e = .returned (.tuple #[r, .int .i64 (Bl.cErr l size)]) ∧ w'.ownsRow w.heap.size 24 2 r (Bl.cOut l size).length (cellsOf (Bl.cOut l size)) ∧ Below w.heap.size w w' := by
  by_cases hr : Bl.right (-1) l
  · by_cases h0 : size < 0
    · have HE : Hid (Bl.err l = 0) := by show Bl.err l = 0; unfold Bl.err; rw [if_pos hr]
      have he : Bl.cErr l size = 1 := by unfold Bl.cErr; rw [if_pos hr, if_pos h0]
      have ho : Bl.cOut l size = [] := by unfold Bl.cOut; rw [he, if_neg (by decide)]
      rw [he, ho]
      have HV : Hid (FieldsAt w.heap.size w v l) := hv
      obtain ⟨ao, cap, rfl, hm, _⟩ := hv.open
      clear hv he ho
      go_enter Try.func20, Try.ntmps20
      go_wp2_with fail
      refine (check_any _ l _ HV.out hok).mono ?_
      rintro e w1 ⟨rfl, hb1⟩
      rw [HE.out]
      go_wp2
      go_ret2
      exact ⟨_, rfl, World.ownsRow_nil _ _ _ _, hb1⟩
    · have he : Bl.cErr l size = 0 := by unfold Bl.cErr; rw [if_pos hr, if_neg h0]
      have ho : Bl.cOut l size = Bl.within 0 size l := by unfold Bl.cOut; rw [if_pos he]
      rw [he, ho]
      exact cut_ok v l size w hv hok hr (by omega)
  · have HE : Hid (Bl.err l = 80) := by show Bl.err l = 80; unfold Bl.err; rw [if_neg hr]
    have he : Bl.cErr l size = 80 := by unfold Bl.cErr; rw [if_neg hr]
    have ho : Bl.cOut l size = [] := by unfold Bl.cOut; rw [he, if_neg (by decide)]
    rw [he, ho]
    have HV : Hid (FieldsAt w.heap.size w v l) := hv
    obtain ⟨ao, cap, rfl, hm, _⟩ := hv.open
    clear hv he ho
    go_enter Try.func20, Try.ntmps20
    go_wp2_with fail
    refine (check_any _ l _ HV.out hok).mono ?_
    rintro e w1 ⟨rfl, hb1⟩
    rw [HE.out]
    go_wp2
    go_ret2
    exact ⟨_, rfl, World.ownsRow_nil _ _ _ _, hb1⟩
end Go.Proofs.Ytkkaendfcfkbbaa
