/-
  oplog's refuse, between and fresh.
-/
import Derived.Test.YtbjcleeiobaegaaRefuse
namespace Go.Proofs.Ytbjcleeiobaegaa
open Go.RowKit Go.Shelf

set_option maxHeartbeats 1000000 in
theorem refuse_nil (n : Int) (v : Value) (xs : List Ol.It) (w : World) (hx : ItemsAt w v xs) (hone : (xs.any fun x => !decide (Ol.right x)) = false → Ol.fall 0 xs = false) : Calls Try.prog 32 #[.pointer none, .int .i64 n, v] w fun e w' => e = .returned (.int .i64 (if (xs.any fun x => !decide (Ol.right x)) then 4 else 5)) ∧ w.grownBy w' none := by
  have HX : Hid (ItemsAt w v xs) := hx
  have HO : Hid ((xs.any fun x => !decide (Ol.right x)) = false → Ol.fall 0 xs = false) := hone
  clear hx hone
  have hfd := fun w => field_view 0 0 0 ⟨#[]⟩ w
  cases hb : (xs.any fun x => !decide (Ol.right x)) with
  | true =>
    have HBB : Hid ((xs.any fun x => !decide (Ol.right x)) = true) := hb
    clear hb
    go_enter Try.func32, Try.ntmps32
    go_wp2_with fail
    refine (wrongs_any _ xs _ HX.out).mono ?_
    rintro e w1 ⟨rfl, hg⟩
    rw [HBB.out]
    have HG : Hid (w.grownBy w1 none) := hg
    clear hg
    go_wp2
    go_ret
    exact ⟨rfl, HG.out⟩
  | false =>
    have HBB : Hid ((xs.any fun x => !decide (Ol.right x)) = false) := hb
    clear hb
    go_enter Try.func32, Try.ntmps32
    go_wp2_with fail
    refine (wrongs_any _ xs _ HX.out).mono ?_
    rintro e w1 ⟨rfl, hg⟩
    rw [HBB.out]
    have HG : Hid (w.grownBy w1 none) := hg
    clear hg
    go_wp2_with fail
    refine (at_nil _ _).mono ?_
    rintro e w2 ⟨rfl, hg⟩
    have HG2 : Hid (w.grownBy w2 none) := grown_trans HG.out hg
    clear hg
    unfold item
    go_wp2_with fail
    refine (fall_any 0 _ xs _ (HX.out.below (below_none HG2.out (Nat.le_refl _)) (Nat.le_refl _))).mono ?_
    rintro e w3 ⟨rfl, hg⟩
    rw [HO.out HBB.out]
    have HG3 : Hid (w.grownBy w3 none) := grown_trans HG2.out hg
    clear hg
    go_wp2
    go_ret
    exact ⟨rfl, HG3.out⟩

set_option maxHeartbeats 1000000 in
theorem refuse_any {s : Nat} {base : Int} {v : Value} {ls : List Ol.It} (k : Nat) (n : Int) (u : Value) (xs : List Ol.It) (w : World) (h : LogAt w s base v ls) (hk : k ≤ ls.length) (hn : n = base + k) (hx : ItemsAt w u xs) (hsz : xs.length ≤ 4611686018427387904) :
    Calls Try.prog 32 #[.pointer (some ⟨s, 0, none⟩), .int .i64 n, u] w fun e w' => e = .returned (.int .i64 (Ol.refuse base (ls.take k) xs)) ∧ w.grownBy w' none := by
  have H : Hid (LogAt w s base v ls) := h
  have HX : Hid (ItemsAt w u xs) := hx
  have HV : Hid ((Ol.at base ls n).1 = Ol.view 0 (ls.take k)) := by rw [hn]; exact Ol.at_view hk
  have hlk : (ls.take k).length = k := by simp; omega
  have g0 := h.good.zero
  have g1 := h.good.top
  have g2 := h.good.len
  have hsI : (xs.length : Int) ≤ 4611686018427387904 := by omega
  have n0 : 0 ≤ n := by omega
  have n1 : n ≤ 1099511627776 := by omega
  have n2 : 0 ≤ n - base := by omega
  have n3 : n - base ≤ 256 := by omega
  have g3 : base ≤ 1099511627776 := by omega
  have HR : Hid (Ol.refuse base (ls.take k) xs = if (xs.any fun x => !decide (Ol.right x)) then 4 else if Ol.fall (Ol.view 0 (ls.take k)) xs then 7 else if 256 < n - base + xs.length ∨ 1099511627776 < n + xs.length then 5 else 0) := by
    unfold Ol.refuse
    rw [hlk]
    have e1 : (256 < k + xs.length ∨ 1099511627776 < base + (k : Int) + (xs.length : Int)) ↔ (256 < n - base + (xs.length : Int) ∨ 1099511627776 < n + (xs.length : Int)) := by omega
    simp only [e1]
    exact trivial
  obtain ⟨ao, cap, rfl, hmx, _⟩ := hx.open
  clear h hx hn hk hlk hsz
  cases hb : (xs.any fun x => !decide (Ol.right x)) with
  | true =>
    have HBB : Hid ((xs.any fun x => !decide (Ol.right x)) = true) := hb
    clear hb
    go_enter Try.func32, Try.ntmps32
    go_wp2_with fail
    refine (wrongs_any _ xs _ HX.out).mono ?_
    rintro e w1 ⟨rfl, hg⟩
    rw [HBB.out]
    have HG : Hid (w.grownBy w1 none) := hg
    clear hg
    go_wp2
    go_ret
    rw [HR.out, HBB.out]
    exact ⟨rfl, HG.out⟩
  | false =>
    have HBB : Hid ((xs.any fun x => !decide (Ol.right x)) = false) := hb
    clear hb
    go_enter Try.func32, Try.ntmps32
    go_wp2_with fail
    refine (wrongs_any _ xs _ HX.out).mono ?_
    rintro e w1 ⟨rfl, hg⟩
    rw [HBB.out]
    have HG : Hid (w.grownBy w1 none) := hg
    clear hg
    go_wp2_with fail
    refine (at_any _ _ (H.out.still HG.out)).mono ?_
    rintro e w2 ⟨rfl, hg⟩
    have HG2 : Hid (w.grownBy w2 none) := grown_trans HG.out hg
    clear hg HG
    have hxx := HV.out
    generalize Ol.at base ls n = x at *
    obtain ⟨x0, x1, x2, x3⟩ := x
    have HXX : Hid (x0 = Ol.view 0 (ls.take k)) := hxx
    unfold item
    simp only
    have hfd := fun w => field_view x0 x1 x2 x3 w
    clear hxx HV
    go_wp2_with fail
    refine (fall_any x0 _ xs _ (HX.out.below (below_none HG2.out (Nat.le_refl _)) (Nat.le_refl _))).mono ?_
    rintro e w3 ⟨rfl, hg⟩
    have HG3 : Hid (w.grownBy w3 none) := grown_trans HG2.out hg
    have hL := H.out.still HG3.out
    obtain ⟨c0, c1⟩ := hL.cells
    clear hg HG2 hfd hL
    cases hf : Ol.fall x0 xs with
    | true =>
      have HFF : Hid (Ol.fall x0 xs = true) := hf
      clear hf
      go_wp2
      go_ret
      rw [HR.out, HBB.out, ← HXX.out, HFF.out]
      exact ⟨rfl, HG3.out⟩
    | false =>
      have HFF : Hid (Ol.fall x0 xs = false) := hf
      clear hf
      by_cases m1 : 256 < n - base + (xs.length : Int)
      · go_wp2
        go_ret
        rw [show Ol.refuse base (ls.take k) xs = 5 by rw [HR.out, HBB.out, ← HXX.out, HFF.out]; simp only [Bool.false_eq_true, if_false]; rw [if_pos (.inl (by omega))]]
        exact ⟨rfl, HG3.out⟩
      · by_cases m2 : 1099511627776 < n + (xs.length : Int)
        · go_wp2
          go_ret
          rw [show Ol.refuse base (ls.take k) xs = 5 by rw [HR.out, HBB.out, ← HXX.out, HFF.out]; simp only [Bool.false_eq_true, if_false]; rw [if_pos (.inr (by omega))]]
          exact ⟨rfl, HG3.out⟩
        · go_wp2
          go_ret
          rw [show Ol.refuse base (ls.take k) xs = 0 by rw [HR.out, HBB.out, ← HXX.out, HFF.out]; simp only [Bool.false_eq_true, if_false]; rw [if_neg (by omega)]]
          exact ⟨rfl, HG3.out⟩
set_option maxHeartbeats 1000000 in
theorem between_any {s : Nat} {base : Int} {v : Value} {ls : List Ol.It} (a b : Nat) (fr to : Int) (w : World) (h : LogAt w s base v ls) (hab : a ≤ b) (hb : b ≤ ls.length) (hfr : fr = base + a) (hto : to = base + b) :
    Calls Try.prog 34 #[.pointer (some ⟨s, 0, none⟩), .int .i64 fr, .int .i64 to] w fun e w' => ∃ u, e = .returned u ∧ Row w (s + 1) 32 u ((ls.take b).drop a) ∧ u.ownBlock = v.ownBlock ∧ ∃ q, w' = w.drewN q := by
  obtain ⟨c0, c1⟩ := h.cells
  have g0 := h.good.zero
  have g1 := h.good.top
  have g2 := h.good.len
  have e1 : fr - base = a := by omega
  have e2 : to - base = b := by omega
  have i1 : 0 ≤ fr := by omega
  have i2 : fr ≤ 1099511627776 := by omega
  have i3 : 0 ≤ to := by omega
  have i4 : to ≤ 1099511627776 := by omega
  have i5 : base ≤ 1099511627776 := by omega
  have i6 : (a : Int) ≤ (b : Int) := by omega
  rcases h.row with ⟨rfl, rfl⟩ | ⟨g, off, cap, cur, rfl, hB, hg, h1, h2, h3, h4⟩
  · have hb0 : b = 0 := by simpa using hb
    subst hb0
    have ha0 : a = 0 := by omega
    subst ha0
    simp only [Int.natCast_zero] at e1 e2
    have HF : Hid (fr = base + (0 : Nat) ∧ to = base + (0 : Nat)) := ⟨hfr, hto⟩
    clear h hfr hto hab hb
    go_enter Try.func34, Try.ntmps34
    go_wp2
    go_quiet (fail)
    go_wp2
    go_ret
    exact ⟨_, rfl, Row.nil _ _ _, rfl, _, rfl⟩
  · have HR := h.row
    have i7 : (b : Int) ≤ (cap : Int) := by omega
    unfold maxLen at h2
    clear h hfr hto hg h3 h4
    go_enter Try.func34, Try.ntmps34
    go_wp2
    have HRR : Hid (Row w (s + 1) 32 (.slice (some ⟨g, off, none⟩) ls.length cap) ls) := HR
    have HK : Hid (b ≤ ls.length ∧ a ≤ b ∧ ls.length ≤ cap) := ⟨hb, hab, h1⟩
    clear HR hb hab h1
    go_quiet (fail)
    go_wp2
    all_goals go_ret
    · refine ⟨_, rfl, ?_, rfl, _, rfl⟩
      have h1 := HRR.out.take (k := 0) (c := 0) (by omega) (Nat.le_refl _) (by omega)
      rw [List.take_zero] at h1
      exact h1
    · refine ⟨_, rfl, ?_, rfl, _, rfl⟩
      have hk := HK.out
      have hl : (ls.take b).length = b := by simp; omega
      have h1 := (HRR.out.take (k := b) (c := b) (by omega) (Nat.le_refl _) (by omega)).drop (k := a) (c := b - a) (by omega) (by omega) (by omega)
      rw [hl] at h1
      exact h1
theorem fresh_any (v : Value) (l : List Ol.It) (w : World) (h : ItemsAt w v l) (hl : l.length ≤ 1000) : Calls Try.prog 35 #[v] w fun e w' => ∃ u, e = .returned u ∧ Row w' w.heap.size 32 u l ∧ w.grownBy w' none := by
  obtain ⟨i0, hi, hz0, hz1, hz2⟩ := info_parts info32
  have HX : Hid (ItemsAt w v l) := h
  clear h
  go_enter Try.func35, Try.ntmps35
  go_wp2_with (at_builtin; refine wpList_row _ rfl _ _ 33 rfl w.heap.size 32 i0 (.agg #[.int .i64 0, .int .i64 0, .int .i64 0, .string ⟨#[]⟩]) 40 Try.underlying33 hi hz0 hz1 hz2 rfl _ [] rfl (Row.nil _ _ _) _ l rfl HX.out ?c1 ?c2 (Nat.le_refl _) ?_)
  case c1 => unfold maxLen; simp; omega
  case c2 => simp; omega
  intro v' w' hrow hg _
  go_wp2
  go_ret
  exact ⟨_, rfl, hrow, hg⟩
end Go.Proofs.Ytbjcleeiobaegaa
