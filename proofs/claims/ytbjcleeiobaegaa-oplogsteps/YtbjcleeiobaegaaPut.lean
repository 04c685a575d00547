/-
  oplog's Behind and Put.
-/
import Derived.Test.YtbjcleeiobaegaaCut
namespace Go.Proofs.Ytbjcleeiobaegaa
open Go.RowKit Go.Shelf

theorem behind_arg (p : Option Addr) (n most : Int) (w : World) (h : most < 0) : Calls Try.prog 21 #[.pointer p, .int .i64 n, .int .i64 most] w fun e w' => e = .returned (.tuple #[.slice none 0 0, .int .i64 1]) ∧ w' = w := by
  go_enter Try.func21, Try.ntmps21
  go_wp2
  go_ret2
  exact ⟨rfl, rfl⟩
theorem behind_nil (n most : Int) (w : World) (h : 0 ≤ most) : Calls Try.prog 21 #[.pointer none, .int .i64 n, .int .i64 most] w fun e w' => e = .returned (.tuple #[.slice none 0 0, .int .i64 6]) ∧ w' = w := by
  have h' : ¬ most < 0 := by omega
  go_enter Try.func21, Try.ntmps21
  go_wp2_with fail
  refine (reach_nil _ _).mono ?_
  rintro e w1 ⟨rfl, rfl⟩
  go_wp2
  go_ret2
  exact ⟨rfl, rfl⟩
set_option maxHeartbeats 400000 in
theorem behind_err {s : Nat} {base : Int} {v : Value} {ls : List Ol.It} (n most : Int) (w : World) (h : LogAt w s base v ls) (hm : 0 ≤ most) (hn : Ol.reach base ls.length n ≠ 0) : Calls Try.prog 21 #[.pointer (some ⟨s, 0, none⟩), .int .i64 n, .int .i64 most] w fun e w' => e = .returned (.tuple #[.slice none 0 0, .int .i64 (Ol.reach base ls.length n)]) ∧ w.grownBy w' none := by
  have H : Hid (LogAt w s base v ls) := h
  have h' : ¬ most < 0 := by omega
  generalize hx : Ol.reach base ls.length n = x at *
  have HX : Hid (Ol.reach base ls.length n = x) := hx
  clear h hx
  go_enter Try.func21, Try.ntmps21
  go_wp2_with fail
  refine (reach_any _ _ H.out).mono ?_
  rintro e w1 ⟨rfl, q, rfl⟩
  rw [HX.out]
  go_wp2
  go_ret2
  exact ⟨rfl, grown_drew (grown_refl _ _) q⟩
theorem Ol.reach_ok {base : Int} {len k : Nat} (h0 : 0 ≤ base) (hk : k ≤ len) : Ol.reach base len (base + k) = 0 := by
  unfold Ol.reach
  rw [if_neg (by omega), if_neg (by omega)]
set_option maxHeartbeats 1000000 in
theorem behind_ok {s : Nat} {base : Int} {v : Value} {ls : List Ol.It} (k : Nat) (n most : Int) (w : World) (h : LogAt w s base v ls) (hk : k ≤ ls.length) (hn : n = base + k) (hm : 0 ≤ most) (hM : most ≤ 9223372036854775807) : Calls Try.prog 21 #[.pointer (some ⟨s, 0, none⟩), .int .i64 n, .int .i64 most] w fun e w' => ∃ u, e = .returned (.tuple #[u, .int .i64 0]) ∧ Row w' w.heap.size 32 u ((ls.drop k).take most.toNat) ∧ w.grownBy w' none := by
  have H : Hid (LogAt w s base v ls) := h
  have HR : Hid (Ol.reach base ls.length n = 0) := by rw [hn]; exact Ol.reach_ok h.good.zero hk
  have HK : Hid (k ≤ ls.length ∧ n = base + k ∧ ls.length ≤ 256) := ⟨hk, hn, h.good.len⟩
  have h' : ¬ most < 0 := by omega
  have g0 := h.good.zero
  have g1 := h.good.top
  have i1 : 0 ≤ n := by omega
  have i2 : n ≤ 1099511627776 := by omega
  have i3 : 0 ≤ base + (ls.length : Int) - n := by omega
  have i4 : base + (ls.length : Int) - n ≤ 1099511627776 := by omega
  have i5 : 0 ≤ n + min most (base + (ls.length : Int) - n) := by omega
  have i6 : n + min most (base + (ls.length : Int) - n) ≤ 1099511627776 := by omega
  clear h hk hn
  go_enter Try.func21, Try.ntmps21
  go_wp2_with fail
  refine (reach_any _ _ H.out).mono ?_
  rintro e w1 ⟨rfl, q, hw1⟩
  rw [HR.out]
  have hg1 : w.grownBy w1 none := by rw [hw1]; exact grown_drew (grown_refl _ _) q
  have HL1 : Hid (LogAt w1 s base v ls) := H.out.still hg1
  have HG1 : Hid (w.grownBy w1 none) := hg1
  clear hw1 hg1
  go_wp2_with fail
  refine (last_any _ HL1.out).mono ?_
  rintro e w2 ⟨rfl, q, hw1⟩
  have hg2 : w1.grownBy w2 none := by rw [hw1]; exact grown_drew (grown_refl _ _) q
  have HL2 : Hid (LogAt w2 s base v ls) := HL1.out.still hg2
  have HG2 : Hid (w.grownBy w2 none) := grown_trans HG1.out hg2
  clear hw1 hg2 HG1 HL1
  go_wp2_with fail
  refine (between_any k (k + min most.toNat (ls.length - k)) _ _ _ HL2.out (by omega) (by have := HK.out; omega) HK.out.2.1 (by have := HK.out; omega)).mono ?_
  rintro e w3 ⟨u, rfl, hrow, hob, q2, hw3⟩
  have hg3 : w2.grownBy w3 none := by rw [hw3]; exact grown_drew (grown_refl _ _) q2
  have HG3 : Hid (w.grownBy w3 none) := grown_trans HG2.out hg3
  have e1 : (ls.take (k + min most.toNat (ls.length - k))).drop k = (ls.drop k).take most.toNat := by
    rw [List.drop_take, Nat.add_sub_cancel_left]
    rw [← List.length_drop, ← List.take_eq_take_min]
  rw [e1] at hrow
  have HI : Hid (ItemsAt w3 u ((ls.drop k).take most.toNat)) := (hrow.still hg3).items
  clear hw3 hg3 HG2 HL2 hrow hob e1
  go_wp2_with fail
  refine (fresh_any _ _ _ HI.out (by have := HK.out; simp; omega)).mono ?_
  rintro e w4 ⟨u', rfl, hrow, hg4⟩
  have HE : Hid (Row w4 w.heap.size 32 u' ((ls.drop k).take most.toNat) ∧ w.grownBy w4 none) := ⟨hrow.mono HG3.out.size, grown_trans HG3.out hg4⟩
  clear hrow hg4
  go_wp2
  go_ret2
  exact ⟨_, rfl, HE.out⟩
theorem put_nil (n : Int) (u : Value) (w : World) : Calls Try.prog 22 #[.pointer none, .int .i64 n, u] w fun e w' => e = .returned (.int .i64 6) ∧ w' = w := by
  go_enter Try.func22, Try.ntmps22
  go_wp2_with fail
  refine (reach_nil _ _).mono ?_
  rintro e w1 ⟨rfl, rfl⟩
  go_wp2
  go_ret
  exact ⟨rfl, rfl⟩
theorem cut_nil (n : Int) (w : World) : Calls Try.prog 19 #[.pointer none, .int .i64 n] w fun e w' => e = .returned (.int .i64 6) ∧ w' = w := by
  go_enter Try.func19, Try.ntmps19
  go_wp2_with fail
  refine (reach_nil _ _).mono ?_
  rintro e w1 ⟨rfl, rfl⟩
  go_wp2
  go_ret
  exact ⟨rfl, rfl⟩
theorem trim_nil (n : Int) (w : World) : Calls Try.prog 20 #[.pointer none, .int .i64 n] w fun e w' => e = .returned (.int .i64 6) ∧ w' = w := by
  go_enter Try.func20, Try.ntmps20
  go_wp2
  go_ret
  exact ⟨rfl, rfl⟩
set_option maxHeartbeats 400000 in
theorem put_reach {s : Nat} {base : Int} {v : Value} {ls : List Ol.It} (n : Int) (u : Value) (w : World) (h : LogAt w s base v ls) (hn : Ol.reach base ls.length n ≠ 0) : Calls Try.prog 22 #[.pointer (some ⟨s, 0, none⟩), .int .i64 n, u] w fun e w' => e = .returned (.int .i64 (Ol.reach base ls.length n)) ∧ w.grownBy w' none := by
  have H : Hid (LogAt w s base v ls) := h
  generalize hx : Ol.reach base ls.length n = x at *
  have HX : Hid (Ol.reach base ls.length n = x) := hx
  clear h hx
  go_enter Try.func22, Try.ntmps22
  go_wp2_with fail
  refine (reach_any _ _ H.out).mono ?_
  rintro e w1 ⟨rfl, q, rfl⟩
  rw [HX.out]
  go_wp2
  go_ret
  exact ⟨rfl, grown_drew (grown_refl _ _) q⟩
set_option maxHeartbeats 400000 in
theorem put_err {s : Nat} {base : Int} {v : Value} {ls : List Ol.It} (k : Nat) (n : Int) (u : Value) (xs : List Ol.It) (w : World) (h : LogAt w s base v ls) (hk : k ≤ ls.length) (hn : n = base + k) (hx : ItemsAt w u xs) (hsz : xs.length ≤ 4611686018427387904) (hr : Ol.refuse base (ls.take k) xs ≠ 0) : Calls Try.prog 22 #[.pointer (some ⟨s, 0, none⟩), .int .i64 n, u] w fun e w' => e = .returned (.int .i64 (Ol.refuse base (ls.take k) xs)) ∧ w.grownBy w' none := by
  have H : Hid (LogAt w s base v ls) := h
  have HR : Hid (Ol.reach base ls.length n = 0) := by rw [hn]; exact Ol.reach_ok h.good.zero hk
  have HK : Hid (k ≤ ls.length ∧ n = base + k ∧ xs.length ≤ 4611686018427387904 ∧ ItemsAt w u xs) := ⟨hk, hn, hsz, hx⟩
  generalize hy : Ol.refuse base (ls.take k) xs = y at *
  have HY : Hid (Ol.refuse base (ls.take k) xs = y) := hy
  clear h hk hn hx hsz hy
  go_enter Try.func22, Try.ntmps22
  go_wp2_with fail
  refine (reach_any _ _ H.out).mono ?_
  rintro e w1 ⟨rfl, q, hw1⟩
  rw [HR.out]
  have hg1 : w.grownBy w1 none := by rw [hw1]; exact grown_drew (grown_refl _ _) q
  have HL1 : Hid (LogAt w1 s base v ls) := H.out.still hg1
  have HG1 : Hid (w.grownBy w1 none) := hg1
  clear hw1 hg1
  go_wp2_with fail
  refine (refuse_any k _ _ xs _ HL1.out HK.out.1 HK.out.2.1 (HK.out.2.2.2.below (below_none HG1.out (Nat.le_refl _)) (Nat.le_refl _)) HK.out.2.2.1).mono ?_
  rintro e w2 ⟨rfl, hg⟩
  rw [HY.out]
  have HG2 : Hid (w.grownBy w2 none) := grown_trans HG1.out hg
  clear hg
  go_wp2
  go_ret
  exact ⟨rfl, HG2.out⟩
set_option maxHeartbeats 1000000 in
theorem put_ok {s : Nat} {base : Int} {v : Value} {ls : List Ol.It} (k : Nat) (n : Int) (u : Value) (xs : List Ol.It) (w : World) (h : LogAt w s base v ls) (hk : k ≤ ls.length) (hn : n = base + k) (hx : ItemsAt w u xs) (hsz : xs.length ≤ 4611686018427387904) (hr : Ol.refuse base (ls.take k) xs = 0) : Calls Try.prog 22 #[.pointer (some ⟨s, 0, none⟩), .int .i64 n, u] w fun e w' => ∃ v', e = .returned (.int .i64 0) ∧ LogAt w' s base v' (ls.take k ++ xs) ∧ Turns w w' s v ∧ Moves w v v' := by
  obtain ⟨i0, hi, hz0, hz1, hz2⟩ := info_parts info32
  have H : Hid (LogAt w s base v ls) := h
  have HR : Hid (Ol.reach base ls.length n = 0) := by rw [hn]; exact Ol.reach_ok h.good.zero hk
  have HK : Hid (k ≤ ls.length ∧ n = base + k ∧ xs.length ≤ 4611686018427387904 ∧ ItemsAt w u xs) := ⟨hk, hn, hsz, hx⟩
  have HY : Hid (Ol.refuse base (ls.take k) xs = 0) := hr
  have hok := Ol.refuse_ok hr
  have HGD : Hid (Ol.Good base (ls.take k ++ xs)) := (h.good.cut k).put hok.1 hok.2.1 hok.2.2.1 hok.2.2.2
  have HLN : Hid ((ls.take k).length + xs.length ≤ 256) := hok.2.2.1
  clear h hk hn hx hsz hr hok
  go_enter Try.func22, Try.ntmps22
  go_wp2_with fail
  refine (reach_any _ _ H.out).mono ?_
  rintro e w1 ⟨rfl, q, hw1⟩
  rw [HR.out]
  have hg1 : w.grownBy w1 none := by rw [hw1]; exact grown_drew (grown_refl _ _) q
  have HL1 : Hid (LogAt w1 s base v ls) := H.out.still hg1
  have HG1 : Hid (w.grownBy w1 none) := hg1
  clear hw1 hg1
  go_wp2_with fail
  refine (refuse_any k _ _ xs _ HL1.out HK.out.1 HK.out.2.1 (HK.out.2.2.2.below (below_none HG1.out (Nat.le_refl _)) (Nat.le_refl _)) HK.out.2.2.1).mono ?_
  rintro e w2 ⟨rfl, hg⟩
  rw [HY.out]
  have HG2 : Hid (w.grownBy w2 none) := grown_trans HG1.out hg
  have HL2 : Hid (LogAt w2 s base v ls) := HL1.out.still hg
  obtain ⟨c0, c1⟩ := HL2.out.cells
  clear hg HL1 HG1
  go_wp2_with fail
  refine (between_any 0 k _ _ _ HL2.out (Nat.zero_le _) HK.out.1 (by simp) HK.out.2.1).mono ?_
  rintro e w3 ⟨b, rfl, hrow, hob, q2, hw3⟩
  have hg3 : w2.grownBy w3 none := by rw [hw3]; exact grown_drew (grown_refl _ _) q2
  have hrow3 := hrow.still hg3
  rw [List.drop_zero] at hrow3
  have HRW : Hid (Row w3 (s + 1) 32 b (ls.take k)) := hrow3
  have HOB : Hid (b.ownBlock = v.ownBlock) := hob
  have HL3 : Hid (LogAt w3 s base v ls) := HL2.out.still hg3
  have HG3 : Hid (w.grownBy w3 none) := grown_trans HG2.out hg3
  clear hw3 hrow hob hrow3 hg3 HL2 HG2 c0 c1
  go_wp2_with (at_builtin; refine wpList_row _ rfl _ _ 33 rfl (s + 1) 32 i0 (.agg #[.int .i64 0, .int .i64 0, .int .i64 0, .string ⟨#[]⟩]) 40 Try.underlying33 hi hz0 hz1 hz2 rfl _ _ rfl HRW.out _ xs rfl (HK.out.2.2.2.below (below_none HG3.out (Nat.le_refl _)) (Nat.le_refl _)) ?c1 ?c2 HL3.out.lt ?_)
  case c1 => have := HLN.out; unfold maxLen; omega
  case c2 => have := HLN.out; omega
  intro v' w4 hrow4 hg4 hmv
  obtain ⟨pu, cu, hu⟩ := hrow4.slice
  generalize (ls.take k ++ xs).length = mu at hu
  subst hu
  have hne : some s ≠ b.ownBlock := fun e => by have := (HRW.out.lt s e.symm).1; omega
  have hblk : w4.heap[s]? = some (.cells #[.int .i64 base, v] 58 (0, 0)) := (hg4.block s HL3.out.lt hne).trans HL3.out.block
  have HE : Hid (LogAt (w4.setCell ⟨s, 1, none⟩ (.slice pu mu cu)) s base (.slice pu mu cu) (ls.take k ++ xs) ∧ Turns w (w4.setCell ⟨s, 1, none⟩ (.slice pu mu cu)) s v ∧ Moves w v (.slice pu mu cu)) := by
    refine ⟨log_put hblk hrow4 HGD.out, turns_set ⟨hg4.os.trans HG3.out.os, hg4.tape.trans HG3.out.tape, hg4.output.trans HG3.out.output, Nat.le_trans HG3.out.size hg4.size, fun j hj hjs hjv => ?_⟩ 1 _, ?_⟩
    · refine (hg4.block j (Nat.lt_of_lt_of_le hj HG3.out.size) (fun e => hjv (by rw [← HOB.out]; exact e))).trans (HG3.out.block j hj (by simp))
    · rcases hmv with hmv | hmv
      · exact .inl (hmv.trans HOB.out)
      · exact .inr fun j hj => Nat.le_trans HG3.out.size (hmv j hj)
  have f1 : w4.frozen? ⟨s, 1, none⟩ = false := by simp [World.frozen?, hblk]
  have d1 : w4.cell? ⟨s, 1, none⟩ = some v := by simp [World.cell?, hblk]
  have hs : s < w4.heap.size := (Array.getElem?_eq_some_iff.1 hblk).1
  clear hrow4 hg4 hmv hne hblk
  go_wp2
  go_ret
  exact ⟨_, rfl, HE.out⟩
end Go.Proofs.Ytbjcleeiobaegaa
