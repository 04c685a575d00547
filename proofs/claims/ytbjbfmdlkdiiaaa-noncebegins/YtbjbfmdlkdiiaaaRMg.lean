/-
  The document's Merge.
-/
import Derived.Test.YtbjbfmdlkdiiaaaMrg
import Derived.Test.YtbjbfmdlkdiiaaaRst
import Derived.Maps.AppendAt
namespace Go.Proofs.Ytbjbfmdlkdiiaaa
open Go.RowKit

theorem Nc.mx_le {a b : List Int} {k : Nat} (h : ¬ a.getD k 0 < b.getD k 0) : Nc.mx a b (k + 1) = Nc.mx a b k ++ [a.getD k 0] := by rw [Nc.mx_succ]; congr 2; omega
theorem Nc.mx_gt {a b : List Int} {k : Nat} (h : a.getD k 0 < b.getD k 0) : Nc.mx a b (k + 1) = Nc.mx a b k ++ [b.getD k 0] := by rw [Nc.mx_succ]; congr 2; omega
/-- One of two rows is appended to: it stays apart from the other. -/
theorem two_rows {wr w3 w1 : World} {G n m n' : Nat} {u g u' : Value} {xs ys xs' : List Value} (hu : wr.ownsRow G 3 1 u n xs) (hg : wr.ownsRow G 3 1 g m ys) (hap : u.ownBlock = none ∨ g.ownBlock = none ∨ u.ownBlock ≠ g.ownBlock) (hbl : Below G w1 wr) (hsz : G ≤ wr.heap.size)
    (hgr : wr.grownBy w3 u.ownBlock) (hu' : w3.ownsRow G 3 1 u' n' xs') (hat : u'.ownBlock = u.ownBlock ∨ u'.ownBlock = some (wr.heap.size + 1)) :
    w3.ownsRow G 3 1 u' n' xs' ∧ w3.ownsRow G 3 1 g m ys ∧ (u'.ownBlock = none ∨ g.ownBlock = none ∨ u'.ownBlock ≠ g.ownBlock) ∧ Below G w1 w3 ∧ G ≤ w3.heap.size := by
  refine ⟨hu', hg.kept hgr ?_, ?_, hbl.grown hgr hsz (fun j hj => (hu.lt j hj).1), Nat.le_trans hsz hgr.size⟩
  · rcases hap with h | h | h
    · cases hq : g.ownBlock with
      | none => exact .inl rfl
      | some q => rw [h]; exact .inr (by simp)
    · exact .inl h
    · exact .inr (Ne.symm h)
  · rcases hat with h | h
    · rw [h]; exact hap
    · cases hq : g.ownBlock with
      | none => exact .inr (.inl rfl)
      | some q =>
        refine .inr (.inr ?_)
        rw [h]
        have := (hg.lt q hq).2
        simp
        omega
set_option maxRecDepth 100000 in
set_option maxHeartbeats 2000000 in
theorem rmerge_any (u v : Value) (a b : List Int) (w : World) (hu : IntsAt w u a) (hv : IntsAt w v b) : Calls Try.prog 16 #[u, v] w fun e w' => ∃ m g, e = .returned (.tuple #[m, g, .int .i64 (Nc.e2 a b)]) ∧ IntsAt w' m (Nc.mxs a b) ∧ IntsAt w' g (Nc.grs a b) ∧ Below w.heap.size w w' := by
  have HU : Hid (IntsAt w u a) := hu
  have HV : Hid (IntsAt w v b) := hv
  rcases Nc.two_cases a b with ⟨h1, ht⟩ | ⟨h1, h2, ht⟩ | ⟨h1, h2, h3, ht⟩ | ⟨h1, h2, h3, ht⟩
  · have HM : Hid (Nc.mxs a b = []) := Nc.mxs_no ht
    have HG : Hid (Nc.grs a b = []) := Nc.grs_no ht
    have HE : Hid (Nc.e2 a b = 4) := Nc.e2_no ht
    have H1 : Hid (Nc.vec a = false) := h1
    obtain ⟨ao, ca, rfl, hma⟩ := hu.slice
    obtain ⟨bo, cb, rfl, hmb⟩ := hv.slice
    clear hu hv ht h1
    go_enter Try.func16, Try.ntmps16
    go_wp2_with fail
    refine (right_any _ a _ HU.out).mono ?_
    rintro e w1 ⟨rfl, rfl⟩
    rw [H1.out]
    go_wp2
    refine bodyPost_ret (v := .tuple #[.slice none 0 0, .slice none 0 0, .int .i64 4]) (by simp [results, Try.results16, go_sem]) rfl ?_
    rw [HM.out, HG.out, HE.out]
    exact ⟨_, _, rfl, .inl ⟨_, _, rfl, rfl⟩, .inl ⟨_, _, rfl, rfl⟩, Below.refl _ _⟩
  · have HM : Hid (Nc.mxs a b = []) := Nc.mxs_no ht
    have HG : Hid (Nc.grs a b = []) := Nc.grs_no ht
    have HE : Hid (Nc.e2 a b = 4) := Nc.e2_no ht
    have H1 : Hid (Nc.vec a = true) := h1
    have H2 : Hid (Nc.vec b = false) := h2
    obtain ⟨ao, ca, rfl, hma⟩ := hu.slice
    obtain ⟨bo, cb, rfl, hmb⟩ := hv.slice
    clear hu hv ht h1 h2
    go_enter Try.func16, Try.ntmps16
    go_wp2_with fail
    refine (right_any _ a _ HU.out).mono ?_
    rintro e w1 ⟨rfl, rfl⟩
    rw [H1.out]
    go_wp2_with fail
    refine (right_any _ b _ HV.out).mono ?_
    rintro e w1 ⟨rfl, rfl⟩
    rw [H2.out]
    go_wp2
    refine bodyPost_ret (v := .tuple #[.slice none 0 0, .slice none 0 0, .int .i64 4]) (by simp [results, Try.results16, go_sem]) rfl ?_
    rw [HM.out, HG.out, HE.out]
    exact ⟨_, _, rfl, .inl ⟨_, _, rfl, rfl⟩, .inl ⟨_, _, rfl, rfl⟩, Below.refl _ _⟩
  · have HM : Hid (Nc.mxs a b = []) := Nc.mxs_no ht
    have HG : Hid (Nc.grs a b = []) := Nc.grs_no ht
    have HE : Hid (Nc.e2 a b = 4) := Nc.e2_no ht
    have H1 : Hid (Nc.vec a = true) := h1
    have H2 : Hid (Nc.vec b = true) := h2
    have hq : ((a.length : Int) != (b.length : Int)) = true := by simp; omega
    obtain ⟨ao, ca, rfl, hma⟩ := hu.slice
    obtain ⟨bo, cb, rfl, hmb⟩ := hv.slice
    clear hu hv ht h1 h2 h3
    go_enter Try.func16, Try.ntmps16
    go_wp2_with fail
    refine (right_any _ a _ HU.out).mono ?_
    rintro e w1 ⟨rfl, rfl⟩
    rw [H1.out]
    go_wp2_with fail
    refine (right_any _ b _ HV.out).mono ?_
    rintro e w1 ⟨rfl, rfl⟩
    rw [H2.out]
    go_wp2
    refine bodyPost_ret (v := .tuple #[.slice none 0 0, .slice none 0 0, .int .i64 4]) (by simp [results, Try.results16, go_sem]) rfl ?_
    rw [HM.out, HG.out, HE.out]
    exact ⟨_, _, rfl, .inl ⟨_, _, rfl, rfl⟩, .inl ⟨_, _, rfl, rfl⟩, Below.refl _ _⟩
  · have HM : Hid (Nc.mxs a b = Nc.mx a b a.length) := Nc.mxs_yes ht
    have HG : Hid (Nc.grs a b = Nc.grew a b a.length) := Nc.grs_yes ht
    have HE : Hid (Nc.e2 a b = 0) := Nc.e2_yes ht
    have hn := Nc.isC_le (Nc.vec_iff.1 h1).2
    have H1 : Hid (Nc.vec a = true) := h1
    have H2 : Hid (Nc.vec b = true) := h2
    obtain ⟨ba, oa, ca, rfl, hBa, hla, hma, hxa⟩ := hu.pos hn.2
    obtain ⟨bb, ob, cb, rfl, hBb, hlb, hmb, hxb⟩ := hv.pos (by omega)
    obtain ⟨n, hnn⟩ : ∃ n, a.length = n := ⟨_, rfl⟩
    rw [← h3, hnn] at hxb hlb HV
    rw [hnn] at hxa hla hn HU HM HG
    rw [← h3, hnn]
    have hq : ((n : Int) != (n : Int)) = false := by simp
    have HX : Hid ((∀ i, i < n → w.cell? ⟨ba, oa + i, none⟩ = some (.int .i64 (a.getD i 0))) ∧ ∀ i, i < n → w.cell? ⟨bb, ob + i, none⟩ = some (.int .i64 (b.getD i 0))) := ⟨hxa, hxb⟩
    clear hu hv ht h1 h2 h3 hxa hxb hnn
    obtain ⟨i0, hi, hz0, hz1, hz2⟩ := info_parts info3
    go_enter Try.func16, Try.ntmps16
    go_wp2_with fail
    refine (right_any _ a _ HU.out).mono ?_
    rintro e w1 ⟨rfl, rfl⟩
    rw [H1.out]
    go_wp2_with fail
    refine (right_any _ b _ HV.out).mono ?_
    rintro e w1 ⟨rfl, rfl⟩
    rw [H2.out]
    go_wp2
    obtain ⟨G, hG⟩ : ∃ G, w1.heap.size = G := ⟨_, rfl⟩
    rw [hG] at hBa hBb
    have HGG : Hid (w1.heap.size = G) := hG
    clear hG hq
    go_loopw [7, 8, 28] (fun m g t wr => ∃ k : Nat, k ≤ n ∧ t = .int .i64 k ∧ wr.ownsRow G 3 1 m (Nc.mx a b k).length ((Nc.mx a b k).map (Value.int .i64)) ∧ wr.ownsRow G 3 1 g (Nc.grew a b k).length ((Nc.grew a b k).map (Value.int .i64)) ∧ Hid (m.ownBlock = none ∨ g.ownBlock = none ∨ m.ownBlock ≠ g.ownBlock) ∧ Below G w1 wr ∧ G ≤ wr.heap.size) (fun _ _ t _ => n - (intOf t).toNat)
    case atStart => exact ⟨0, Nat.zero_le _, rfl, World.ownsRow_nil _ _ _ _, World.ownsRow_nil _ _ _ _, .inl rfl, Below.refl _ _, by rw [HGG.out]; exact Nat.le_refl _⟩
    case round =>
      obtain ⟨k, hk, rfl, hrm, hrg, HAp, hbl, hsz⟩ := hrel
      by_cases hlt : k < n
      · have hltI : (k : Int) < (n : Int) := by omega
        have ca0 := (hbl.cell (p := ⟨ba, oa + k, none⟩) hBa).trans (HX.out.1 k hlt)
        have cb0 := (hbl.cell (p := ⟨bb, ob + k, none⟩) hBb).trans (HX.out.2 k hlt)
        have hgl := Nc.grew_len a b k
        have hml := Nc.mx_length a b k
        rw [hml] at hrm
        by_cases hxy : a.getD k 0 < b.getD k 0
        · have HY3 : Hid (Nc.grew a b (k + 1) = Nc.grew a b k ++ [(k : Int)]) := Nc.grew_yes hxy
          have HM3 : Hid (Nc.mx a b (k + 1) = Nc.mx a b k ++ [b.getD k 0]) := Nc.mx_gt hxy
          have HB3 : Hid (w1.cell? ⟨bb, ob + k, none⟩ = some (.int .i64 (b.getD k 0))) := HX.out.2 k hlt
          clear hml
          generalize a.getD k 0 = x at *
          generalize b.getD k 0 = y at *
          go_wp2_with (at_builtin; refine wpList_append_own_at _ rfl _ _ 22 rfl G 3 i0 (.int .i64 0) 1 8 Try.underlying22 hi hz0 hz1 hz2 rfl (by decide) _ _ _ rfl (hrm.alloc _) ⟨_, 0, none⟩ 1 1 [.int .i64 y] rfl rfl ?c1 ?c2 ?c3 ?c4 ?c5 ?_)
          case c1 => exact one_new_at _ _ rfl _ _
          case c2 => exact ints_oneCell .i64 [(y : Int)]
          case c3 => unfold maxLen; omega
          case c4 => omega
          case c5 => simp; omega
          intro v3 w3 hown3 hg3 _ hat3
          have hga : wr.grownBy w3 u7.ownBlock := grown_trans (World.grownBy_alloc _ (.cells #[.int .i64 y] 3) u7.ownBlock) hg3
          obtain ⟨hrm3, hrg3, hap3, hbl3, hsz3⟩ := two_rows hrm hrg HAp.out hbl hsz hga hown3 (by simpa using hat3)
          have hb3 : w3.cell? ⟨bb, ob + k, none⟩ = some (.int .i64 y) := (hbl3.cell (p := ⟨bb, ob + k, none⟩) hBb).trans (HB3.out)
          clear hown3 hg3 hga hat3 hrm hrg HAp hbl hsz
          go_wp2_with (at_builtin; refine wpList_append_own_at _ rfl _ _ 22 rfl G 3 i0 (.int .i64 0) 1 8 Try.underlying22 hi hz0 hz1 hz2 rfl (by decide) _ _ _ rfl (hrg3.alloc _) ⟨_, 0, none⟩ 1 1 [.int .i64 k] rfl rfl ?c1 ?c2 ?c3 ?c4 ?c5 ?_)
          case c1 => exact one_new_at _ _ rfl _ _
          case c2 => exact ints_oneCell .i64 [(k : Int)]
          case c3 => unfold maxLen; omega
          case c4 => omega
          case c5 => simp; omega
          intro v4 w4 hown4 hg4 _ hat4
          have hga : w3.grownBy w4 u8.ownBlock := grown_trans (World.grownBy_alloc _ (.cells #[.int .i64 k] 3) u8.ownBlock) hg4
          obtain ⟨hrg4, hrm4, hap4, hbl4, hsz4⟩ := two_rows hrg3 hrm3 (by rcases hap3 with h | h | h; exact .inr (.inl h); exact .inl h; exact .inr (.inr (Ne.symm h))) hbl3 hsz3 hga hown4 (by simpa using hat4)
          clear hown4 hg4 hga hat4 hrm3 hrg3 hap3 hbl3 hsz3
          go_wp2
          go_roundw
          case rel => exact ⟨k + 1, by omega, by go_num, by rw [HM3.out, List.map_append]; simpa [Nc.mx_length] using hrm4, by rw [HY3.out]; simpa using hrg4, by rcases hap4 with h | h | h; exact .inr (.inl h); exact .inl h; exact .inr (.inr (Ne.symm h)), hbl4, hsz4⟩
          case measure => simp [intOf]; omega
        · have HY3 : Hid (Nc.grew a b (k + 1) = Nc.grew a b k) := Nc.grew_no hxy
          have HM3 : Hid (Nc.mx a b (k + 1) = Nc.mx a b k ++ [a.getD k 0]) := Nc.mx_le hxy
          clear hml
          generalize a.getD k 0 = x at *
          generalize b.getD k 0 = y at *
          go_wp2_with (at_builtin; refine wpList_append_own_at _ rfl _ _ 22 rfl G 3 i0 (.int .i64 0) 1 8 Try.underlying22 hi hz0 hz1 hz2 rfl (by decide) _ _ _ rfl (hrm.alloc _) ⟨_, 0, none⟩ 1 1 [.int .i64 x] rfl rfl ?c1 ?c2 ?c3 ?c4 ?c5 ?_)
          try (case c1 => exact one_new_at _ _ rfl _ _)
          case c2 => first | exact ints_oneCell .i64 [(x : Int)] | rfl
          case c3 => unfold maxLen; omega
          case c4 => omega
          case c5 => first | omega | (simp; omega)
          intro v3 w3 hown3 hg3 _ hat3
          have hga : wr.grownBy w3 u7.ownBlock := grown_trans (World.grownBy_alloc _ (.cells #[.int .i64 x] 3) u7.ownBlock) hg3
          obtain ⟨hrm3, hrg3, hap3, hbl3, hsz3⟩ := two_rows hrm hrg HAp.out hbl hsz hga hown3 (by simpa using hat3)
          clear hown3 hg3 hga hat3 hrm hrg HAp hbl hsz
          go_wp2
          go_roundw
          case rel => exact ⟨k + 1, by omega, by go_num, by rw [HM3.out, List.map_append]; simpa [Nc.mx_length] using hrm3, by rw [HY3.out]; exact hrg3, hap3, hbl3, hsz3⟩
          case measure => simp [intOf]; omega
      · obtain rfl : n = k := by omega
        go_wp2
        refine bodyPost_ret (v := .tuple #[u7, u8, .int .i64 0]) (by simp [results, Try.results16, go_sem]) rfl ?_
        rw [HM.out, HG.out, HE.out]
        exact ⟨_, _, rfl, IntsAt.of_own hrm, IntsAt.of_own hrg, by rw [HGG.out]; exact hbl⟩
end Go.Proofs.Ytbjbfmdlkdiiaaa
