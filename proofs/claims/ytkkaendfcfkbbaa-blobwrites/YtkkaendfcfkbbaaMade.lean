/-
  The document's Made: the runs that have bytes at places that rise.
-/
import Derived.Test.YtkkaendfcfkbbaaOnes
import Derived.Laws.BytesArg
namespace Go.Proofs.Ytkkaendfcfkbbaa
open Go.ChangeShapes Go.WideShapes Go.ChangeAt Go.RowKit Go.Deep

theorem infoByte : (Try.prog.info? 5).map (fun i => (i.zero, i.size, i.bytes)) = some (some (.int .u8 0), 1, 1) := by kernel_rfl
/-- The value v stands for the list l of bytes at places, whose cells lie below block number B. -/
def OnesAt (B : Nat) (w : World) (v : Value) (l : List (Int × UInt8)) : Prop :=
  ∃ ao cap, v = .slice ao l.length cap ∧ l.length ≤ maxLen ∧ ∀ j, j < l.length → ∃ b off, ao = some ⟨b, off, none⟩ ∧ b < B ∧ w.cell? ⟨b, off + j * 2, none⟩ = some (.int .i64 (l.getD j (0, 0)).1) ∧ w.cell? ⟨b, off + j * 2 + 1, none⟩ = some (.int .u8 ((l.getD j (0, 0)).2.toNat : Int))
theorem OnesAt.of_own {base : Nat} {w : World} {v : Value} {e : TypeId} {l : List (Int × UInt8)} (h : w.ownsRow base e 2 v l.length (cells1 l)) : OnesAt w.heap.size w v l := by
  have hlt := h.lt
  rcases h.2 with ⟨rfl, hn⟩ | ⟨g, cap, cur, rfl, hbg, hg, hnc, hcm, hcs, htake⟩
  · have : l = [] := List.eq_nil_of_length_eq_zero hn
    subst this
    exact ⟨none, 0, rfl, by simp, fun j hj => by simp at hj⟩
  · refine ⟨_, cap, rfl, by omega, fun i hi => ⟨g, 0, rfl, (hlt g rfl).2, ?_⟩⟩
    have h0 := h.cells (g := g) rfl (i * 2) _ (cells1_at l i hi).1
    have h1 := h.cells (g := g) rfl (i * 2 + 1) _ (cells1_at l i hi).2
    rw [WideShapes.add_plain] at h0 h1
    exact ⟨h0, by rw [Nat.add_assoc]; exact h1⟩
namespace Bl
theorem made_snoc (l : List (Int × UInt8)) (x : Int × UInt8) : made (l ++ [x]) = join (made l) (x.1, txt [x.2]) := by
  unfold made
  rw [List.map_append, List.map_cons, List.map_nil, joins_snoc]
/-- How far Made is: the runs that it told, and the one that it is about to tell. -/
def half (O : List R) (at_ : Int) (b : List UInt8) : List R := O ++ (if b = [] then [] else [(at_, txt b)])
theorem half_first (x : Int × UInt8) : join (half [] 0 []) (x.1, txt [x.2]) = half [] x.1 [x.2] := by simp [half, join_nil]
theorem half_more (O : List R) (at_ : Int) (b : List UInt8) (x : Int × UInt8) (hb : b ≠ []) (h : at_ + (b.length : Int) = x.1) : join (half O at_ b) (x.1, txt [x.2]) = half O at_ (b ++ [x.2]) := by
  unfold half
  rw [if_neg hb, if_neg (by simp), join_snoc, if_pos (by unfold rend; rw [txt_size]; exact h)]
  simp only
  rw [txt_append]
theorem half_new (O : List R) (at_ : Int) (b : List UInt8) (x : Int × UInt8) (hb : b ≠ []) (h : ¬ at_ + (b.length : Int) = x.1) : join (half O at_ b) (x.1, txt [x.2]) = half (O ++ [(at_, txt b)]) x.1 [x.2] := by
  unfold half
  rw [if_neg hb, if_neg (by simp), join_snoc, if_neg (by unfold rend; rw [txt_size]; exact h)]
theorem take1_succ (l : List (Int × UInt8)) {k : Nat} (hk : k < l.length) {x : Int × UInt8} (hx : l.getD k (0, 0) = x) : l.take (k + 1) = l.take k ++ [x] := by
  rw [List.take_succ_eq_append_getElem hk, ← hx]
  simp [List.getD, hk]
end Bl
/-- string(b) of a row of bytes of the call's own. -/
theorem conv_own {W : World} {base : Nat} {v : Value} {xs : List UInt8} (h : W.ownsRow base 5 1 v xs.length (xs.map fun c => Value.int .u8 (c.toNat : Int))) (hp : 0 < xs.length) : ∃ g cap, v = .slice (some ⟨g, 0, none⟩) xs.length cap ∧
    (convert 47 9 (.slice (some ⟨g, 0, none⟩) xs.length cap)).run Try.prog W = .ok (.string (Bl.txt xs)) W := by
  rcases h.2 with ⟨rfl, hn⟩ | ⟨g, cap, cur, rfl, hbg, hg, hnc, hcm, hcs, htake⟩
  · omega
  · refine ⟨g, cap, rfl, ?_⟩
    have h2 := run_convert_bytes_arg W 47 5 Try.underlying47 Try.underlying5 g 0 xs.length cap (xs.map fun c => (c.toNat : Int)) (by simp) (fun i hi => by
      have := h.cells (g := g) rfl i (.int .u8 ((xs.getD i 0).toNat : Int)) (by simp [List.getD, hi])
      rw [WideShapes.add_plain] at this
      rw [this]
      simp [List.getD, hi]) 9 Try.underlying9
    rw [h2, show strOfNums (xs.map fun c => (c.toNat : Int)) = Bl.txt ((xs.map fun c => (c.toNat : Int)).map fun n => UInt8.ofNat n.toNat) from rfl]
    simp [Function.comp_def]
theorem conv_row {W : World} {base g cap : Nat} {xs : List UInt8} (h : W.ownsRow base 5 1 (.slice (some ⟨g, 0, none⟩) xs.length cap) xs.length (xs.map fun c => Value.int .u8 (c.toNat : Int))) (hp : 0 < xs.length) :
    (convert 47 9 (.slice (some ⟨g, 0, none⟩) xs.length cap)).run Try.prog W = .ok (.string (Bl.txt xs)) W := by
  obtain ⟨g', cap', hv, hc⟩ := conv_own h hp
  cases hv
  exact hc
theorem own_slice {w : World} {base : Nat} {e : TypeId} {size : Nat} {v : Value} {k : Nat} {xs : List Value} (h : w.ownsRow base e size v k xs) : ∃ p c, v = .slice p k c := by
  rcases h.2 with ⟨rfl, rfl⟩ | ⟨g, cap, _, rfl, _⟩
  · exact ⟨_, _, rfl⟩
  · exact ⟨_, _, rfl⟩
theorem own_some {w : World} {base : Nat} {e : TypeId} {size : Nat} {v : Value} {k : Nat} {xs : List Value} (h : w.ownsRow base e size v k xs) (hk : 0 < k) : ∃ g c, v = .slice (some ⟨g, 0, none⟩) k c := by
  rcases h.2 with ⟨rfl, rfl⟩ | ⟨g, cap, _, rfl, _⟩
  · omega
  · exact ⟨_, _, rfl⟩
theorem one_new (W : World) (g : Nat) (hg : g = W.heap.size) (a : Value) (T : TypeId) : ∀ j u, [a][j]? = some u → (W.alloc (.cells #[a] T)).cell? ((⟨g, 0, none⟩ : Addr).add j) = some u := by
  subst hg
  intro j u hj
  rw [Go.WideShapes.add_plain]
  match j, hj with
  | 0, hj => simp at hj; subst hj; simp
theorem own_other {W W' : World} {base base' e e' size size' k n : Nat} {u v : Value} {xs ys : List Value} (hu : W.ownsRow base e size u k xs) (hv : W.ownsRow base' e' size' v n ys) (hne : e ≠ e') (hg : W.grownBy W' v.ownBlock) : W'.ownsRow base e size u k xs := by
  refine hu.kept hg ?_
  rcases hu.2 with ⟨rfl, _⟩ | ⟨g, cap, cur, rfl, _, hgb, _⟩
  · exact .inl rfl
  · refine .inr fun e1 => ?_
    rcases hv.2 with ⟨rfl, _⟩ | ⟨g', cap', cur', rfl, _, hgb', _⟩
    · simp [Value.ownBlock] at e1
    · simp only [Value.ownBlock, Option.some.injEq] at e1
      subst e1
      rw [hgb] at hgb'
      simp at hgb'
      exact hne hgb'.2

set_option maxHeartbeats 4000000 in
theorem made_any (v : Value) (L : List (Int × UInt8)) (w : World) (hv : OnesAt w.heap.size w v L) (hlen : L.length ≤ 4194304) (hpl : ∀ q ∈ L, 0 ≤ q.1 ∧ q.1 ≤ 1048576) :
    Calls Try.prog 26 #[v] w fun e w' => ∃ r, e = .returned r ∧ w'.ownsRow w.heap.size 24 2 r (Bl.made L).length (cellsOf (Bl.made L)) ∧ Below w.heap.size w w' := by
  obtain ⟨i0, hi, hz0, hz1, hz2⟩ := info_parts infoRun
  obtain ⟨i1, hj, hy0, hy1, hy2⟩ := info_parts infoByte
  obtain ⟨ao, cap, rfl, hm, hx⟩ := hv
  unfold maxLen at hm
  obtain ⟨n, hn⟩ : ∃ n, L.length = n := ⟨_, rfl⟩
  rw [hn] at hm hx hlen ⊢
  have HN : Hid (L.length = n) := hn
  have HX : Hid (∀ j, j < n → ∃ b off, ao = some ⟨b, off, none⟩ ∧ b < w.heap.size ∧ w.cell? ⟨b, off + j * 2, none⟩ = some (.int .i64 (L.getD j (0, 0)).1) ∧ w.cell? ⟨b, off + j * 2 + 1, none⟩ = some (.int .u8 ((L.getD j (0, 0)).2.toNat : Int))) := hx
  have HP : Hid (∀ q ∈ L, 0 ≤ q.1 ∧ q.1 ≤ 1048576) := hpl
  clear hn hx hpl
  go_enter Try.func26, Try.ntmps26
  go_wp2
  go_loopw [3, 4, 5, 10] (fun o b t i wr => ∃ (k : Nat) (O : List Bl.R) (bb : List UInt8) (at_ : Int), k ≤ n ∧ i = .int .i64 k ∧ t = .int .i64 at_ ∧ Bl.made (L.take k) = Bl.half O at_ bb ∧ (k = 0 → O = [] ∧ bb = [] ∧ at_ = 0) ∧ (0 < k → bb ≠ [] ∧ at_ + (bb.length : Int) = (L.getD (k - 1) (0, 0)).1 + 1) ∧ O.length ≤ k ∧ bb.length ≤ k ∧
      wr.ownsRow w.heap.size 24 2 o O.length (cellsOf O) ∧ wr.ownsRow w.heap.size 5 1 b bb.length (bb.map fun c => Value.int .u8 (c.toNat : Int)) ∧ Below w.heap.size w wr) (fun _ _ _ i _ => n - (intOf i).toNat)
  case atStart => exact ⟨0, [], [], 0, Nat.zero_le _, rfl, rfl, rfl, fun _ => ⟨rfl, rfl, rfl⟩, fun h => by omega, by simp, by simp, World.ownsRow_nil _ _ _ _, World.ownsRow_nil _ _ _ _, Below.refl _ _⟩
  case round =>
    obtain ⟨k, O, bb, at_, hk, rfl, rfl, hmade, hz, hp, hOl, hbl', hO, hb, hbl⟩ := hrel
    have hsz := hbl.size
    have HM : Hid (Bl.made (L.take k) = Bl.half O at_ bb) := hmade
    clear hmade
    by_cases hlt : k < n
    · obtain ⟨b, off, rfl, hB, c0, c1⟩ := HX.out k hlt
      have hk' : k < L.length := by rw [HN.out]; exact hlt
      rw [← hbl.cell (p := ⟨b, off + k * 2, none⟩) hB] at c0
      rw [← hbl.cell (p := ⟨b, off + k * 2 + 1, none⟩) hB] at c1
      obtain ⟨x, hxk⟩ : ∃ x, L.getD k (0, 0) = x := ⟨_, rfl⟩
      rw [hxk] at c0 c1
      have HXK : Hid (L.getD k (0, 0) = x) := hxk
      have hpx := HP.out x (by rw [← hxk]; simp [List.getD, hk'])
      have HMS : Hid (Bl.made (L.take (k + 1)) = Bl.join (Bl.half O at_ bb) (x.1, Bl.txt [x.2])) := by
        show Bl.made (L.take (k + 1)) = _
        rw [Bl.take1_succ L hk' hxk, Bl.made_snoc, HM.out]
      clear hxk
      obtain ⟨xa, xc⟩ := x
      simp only at c0 c1 hpx HMS
      obtain ⟨hp0, hp1⟩ := hpx
      have hlt' : (k : Int) < (n : Int) := by omega
      have hby : xc.toNat < 256 := xc.toNat_lt
      have hbw : b < wr.heap.size := by omega
      by_cases hk0 : k = 0
      · obtain ⟨rfl, rfl, rfl⟩ := hz hk0
        obtain ⟨pb, cb, rfl⟩ := own_slice hb
        have hg : decide (0 < k) = false := by simp [hk0]
        have HK0 : Hid (k = 0) := hk0
        clear hk0 hz hp
        go_wp2
        go_quiet (fail)
        go_wp2_with (at_builtin; refine wpList_append_own _ rfl (.tmp 41) (.tmp 44) 47 rfl w.heap.size 5 i1 (.int .u8 0) 1 1 Try.underlying47 hj hy0 hy1 hy2 rfl (by decide) _ _ _ rfl ((own_drewN (hb.alloc _) _).alloc _) ⟨wr.heap.size + 1, 0, none⟩ 1 1 [.int .u8 (xc.toNat : Int)] rfl rfl (one_new _ _ (by simp) _ _) (by simp [Value.oneCell']) (by unfold maxLen; omega) (by omega) (by first | omega | (simp; omega)) ?_; intro v1 w1 hown1 hgrow1 _)
        go_roundw
        case rel =>
          refine ⟨k + 1, [], [xc], xa, by omega, by go_num, rfl, by rw [HMS.out]; exact Bl.half_first (xa, xc), fun h => by omega, fun _ => ⟨by simp, ?_⟩, by simp, by simp, ?_, hown1, ?_⟩
          · rw [Nat.add_sub_cancel, HXK.out]
            simp
          · exact own_other ((own_drewN (hO.alloc _) _).alloc _) ((own_drewN (hb.alloc _) _).alloc _) (by decide) hgrow1
          · exact ((Go.below_drewN (hbl.alloc hsz _) _).alloc (by simp; omega) _).grown hgrow1 (by simp; omega) (fun g hg => (hb.lt g hg).1)
        case measure => simp [intOf]; omega
      · obtain ⟨hbne, hend⟩ := hp (by omega)
        have hbp : 0 < bb.length := List.length_pos_iff.2 hbne
        obtain ⟨b2, off2, hbe, hB2, d0, _⟩ := HX.out (k - 1) (by omega)
        cases hbe
        rw [← hbl.cell (p := ⟨b, off + (k - 1) * 2, none⟩) hB] at d0
        obtain ⟨j, rfl⟩ : ∃ j, k = j + 1 := ⟨k - 1, by omega⟩
        rw [Nat.add_sub_cancel] at hend d0
        obtain ⟨pv, hpv⟩ : ∃ pv, (L.getD j (0, 0)).1 = pv := ⟨_, rfl⟩
        rw [hpv] at hend d0
        have hpv0 := HP.out (L.getD j (0, 0)) (by simp [List.getD, show j < L.length by omega])
        rw [hpv] at hpv0
        clear hpv
        obtain ⟨gb, cb, rfl⟩ := own_some hb hbp
        have hg : decide (0 < j + 1) = true := by simp
        have hjn : (j : Int) < (n : Int) := by omega
        have hj0 : (0 : Int) ≤ (j : Int) := by omega
        have hble : ((bb.length : Int) == 0) = false := beq_eq_false_iff_ne.2 (by omega)
        have HEND : Hid (at_ + (bb.length : Int) = pv + 1) := hend
        clear hz hp hk0 hend
        by_cases hc : pv + 1 = xa
        · have hc' : (pv + 1 != xa) = false := by simpa using hc
          have HC : Hid (pv + 1 = xa) := hc
          clear hc
          go_wp2
          go_quiet (fail)
          go_wp2_with (at_builtin; refine wpList_append_own _ rfl (.tmp 41) (.tmp 44) 47 rfl w.heap.size 5 i1 (.int .u8 0) 1 1 Try.underlying47 hj hy0 hy1 hy2 rfl (by decide) _ _ _ rfl ((own_drewN (hb.alloc _) _).alloc _) ⟨wr.heap.size + 1, 0, none⟩ 1 1 [.int .u8 (xc.toNat : Int)] rfl rfl (one_new _ _ (by simp) _ _) (by simp [Value.oneCell']) (by unfold maxLen; omega) (by omega) (by first | omega | (simp; omega)) ?_; intro v1 w1 hown1 hgrow1 _)
          go_roundw
          case rel =>
            refine ⟨j + 1 + 1, O, bb ++ [xc], at_, by omega, by go_num, rfl, by rw [HMS.out]; exact Bl.half_more O at_ bb (xa, xc) hbne (by rw [HEND.out, HC.out]), fun h => by omega, fun _ => ⟨by simp, ?_⟩, by omega, by simp; omega, ?_, ?_, ?_⟩
            · rw [Nat.add_sub_cancel, HXK.out]
              have := HEND.out
              have := HC.out
              simp only [List.length_append, List.length_cons, List.length_nil]
              omega
            · exact own_other ((own_drewN (hO.alloc _) _).alloc _) ((own_drewN (hb.alloc _) _).alloc _) (by decide) hgrow1
            · rw [List.length_append, List.map_append]
              exact hown1
            · exact ((Go.below_drewN (hbl.alloc hsz _) _).alloc (by simp; omega) _).grown hgrow1 (by simp; omega) (fun g hg => (hb.lt g hg).1)
          case measure => simp [intOf]; omega
        · have hc' : (pv + 1 != xa) = true := by simpa using hc
          have HC : Hid (¬ pv + 1 = xa) := hc
          clear hc
          go_wp2
          go_quiet (fail)
          have hcv := conv_row (own_drewN (hb.alloc (.cells #[.int .i64 xa, .int .u8 (xc.toNat : Int)] 56)) nq) hbp
          go_wp2_with (first | (at_builtin; refine wpList_append_own _ rfl (.tmp 29) (.tmp 34) 22 rfl w.heap.size 24 i0 (.agg #[.int .i64 0, .string ⟨#[]⟩]) 2 24 Try.underlying22 hi hz0 hz1 hz2 rfl (by decide) _ _ _ rfl ((own_drewN (hO.alloc _) _).alloc _) ⟨wr.heap.size + 1, 0, none⟩ 1 1 [.int .i64 at_, .string (Bl.txt bb)] rfl rfl (two_new _ _ (by simp) _ _ _) (one2 _ _) (by unfold maxLen; omega) (by omega) (by first | omega | (simp; omega)) ?_; intro v2 w2 hown2 hgrow2 _; have hbe2 := (((Go.below_drewN (hbl.alloc hsz _) nq).alloc (by simp; omega) _).grown hgrow2 (by simp; omega) (fun g hg => (hO.lt g hg).1)); have hsz2 := hbe2.size; obtain ⟨e0, e1⟩ := two_cells (keep_two ((own_drewN (hO.alloc (.cells #[.int .i64 xa, .int .u8 (xc.toNat : Int)] 56)) nq).alloc (BR at_ (Bl.txt bb))) hgrow2 ((Below.heap_alloc ((wr.alloc (.cells #[.int .i64 xa, .int .u8 (xc.toNat : Int)] 56)).drewN nq) (BR at_ (Bl.txt bb)) wr.heap.size (by simp)).trans (heap_alloc_new wr _)) (by decide))) | (at_builtin; refine wpList_append_own _ rfl (.tmp 41) (.tmp 44) 47 rfl w.heap.size 5 i1 (.int .u8 0) 1 1 Try.underlying47 hj hy0 hy1 hy2 rfl (by decide) _ _ _ rfl (World.ownsRow_nil _ _ _ _) ⟨w2.heap.size, 0, none⟩ 1 1 [.int .u8 (xc.toNat : Int)] rfl rfl (one_new _ _ (by simp) _ _) (by simp [Value.oneCell']) (by unfold maxLen; omega) (by omega) (by first | omega | (simp; omega)) ?_; intro v1 w1 hown1 hgrow1 _))
          go_roundw
          case rel =>
            refine ⟨j + 1 + 1, O ++ [(at_, Bl.txt bb)], [xc], xa, by omega, by go_num, rfl, by rw [HMS.out]; exact Bl.half_new O at_ bb (xa, xc) hbne (by rw [HEND.out]; exact HC.out), fun h => by omega, fun _ => ⟨by simp, ?_⟩, by simp; omega, by simp, ?_, hown1, ?_⟩
            · rw [Nat.add_sub_cancel, HXK.out]
              simp
            · rw [List.length_append, cellsOf_append]
              exact own_other (hown2.alloc _) (World.ownsRow_nil _ w.heap.size 5 1) (by decide) hgrow1
            · exact (hbe2.alloc hsz2 _).grown hgrow1 (by simp; omega) (fun g hg => by cases hg)
          case measure => simp [intOf]; omega
    · obtain rfl : k = n := by omega
      have HML : Hid (Bl.made L = Bl.half O at_ bb) := by
        have := HM.out
        rw [← HN.out, List.take_length] at this
        exact this
      by_cases hk0 : k = 0
      · obtain ⟨rfl, rfl, rfl⟩ := hz hk0
        obtain ⟨pb, cb, rfl⟩ := own_slice hb
        clear hz hp
        go_wp2
        go_ret
        refine ⟨_, rfl, ?_, hbl⟩
        rw [HML.out]
        exact hO
      · obtain ⟨hbne, _⟩ := hp (by omega)
        have hbp : 0 < bb.length := List.length_pos_iff.2 hbne
        obtain ⟨gb, cb, rfl⟩ := own_some hb hbp
        have hcv := conv_row hb hbp
        have hbp' : (0 : Int) < (bb.length : Int) := by omega
        clear hz hp hk0
        go_wp2_with (at_builtin; refine wpList_append_own _ rfl (.tmp 50) (.tmp 55) 22 rfl w.heap.size 24 i0 (.agg #[.int .i64 0, .string ⟨#[]⟩]) 2 24 Try.underlying22 hi hz0 hz1 hz2 rfl (by decide) _ _ _ rfl (hO.alloc _) ⟨wr.heap.size, 0, none⟩ 1 1 [.int .i64 at_, .string (Bl.txt bb)] rfl rfl (two_new _ _ (by simp) _ _ _) (one2 _ _) (by unfold maxLen; omega) (by omega) (by first | omega | (simp; omega)) ?_; intro v2 w2 hown2 hgrow2 _)
        go_ret
        refine ⟨_, rfl, ?_, (hbl.alloc hsz _).grown hgrow2 (by simp; omega) (fun g hg => (hO.lt g hg).1)⟩
        rw [HML.out]
        unfold Bl.half
        rw [if_neg hbne, List.length_append, cellsOf_append]
        exact hown2
end Go.Proofs.Ytkkaendfcfkbbaa
