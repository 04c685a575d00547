/-
  alarm's clock: what its small functions answer, and what they leave, at any clock that stands for a list of alarms.
-/
import Derived.Test.YtlhobncpifklkaaRows
import Derived.Test.YtlhobncpifklkaaPlain
import Derived.WalkKit
import Derived.ProofKit
import Derived.Maps.OwnOps
namespace Go.Proofs.Ytlhobncpifklkaa
open Go.RowKit Go.Maps

theorem own : ownKnob Try.prog.godebug = none := by kernel_rfl
theorem laidOut : laidOutB Try.prog = true := by kernel_rfl
theorem law3 : Keyed Try.prog 3 := int_keyed Try.underlying3
theorem zero3 (w : World) : (zeroValue 3).run Try.prog w = .ok (.int .i64 0) w := by kernel_rfl

theorem eqlSome (bm : Nat) (w : World) : (binOp .eql 75 (.map (some bm)) (.map none)).run Try.prog w = .ok (.bool false) w := by kernel_rfl

theorem wf_i64 {x : Int} (h : -9223372036854775808 ≤ x ∧ x ≤ 9223372036854775807) : (Lit.int .i64 x).wf = true := by
  simp [Lit.wf, IntKind.min, IntKind.max, IntKind.signed, IntKind.bits]
  omega
theorem of_wf {x : Int} (h : (Lit.int .i64 x).wf = true) : -9223372036854775808 ≤ x ∧ x ≤ 9223372036854775807 := by
  simp [Lit.wf, IntKind.min, IntKind.max, IntKind.signed, IntKind.bits] at h
  omega

theorem tight {H : Type} {P : Program} {k : TypeId} {R : Value → Option (DataW H × List MemPlace)} {w : World} {b n : Nat} {D : DataW H} (h : w.ownsMap P k R b n D) : w.ownsMap P k R b (Maps.size D) D := by
  obtain ⟨es, clock, hb, F, hs, hD⟩ := h
  refine ⟨es, clock, hb, F, ?_, hD⟩
  rw [hD]
  have := length_read (P := P) (k := k) (R0 := R) es
  rw [Maps.size_eq]
  omega

abbrev mapped (w : World) (bm : Nat) (L : List (Int × Int)) (D : DataW Unit) : Prop := w.ownsMap Try.prog 3 (plainElem Try.prog 3) bm L.length D

/-- The struct at block s, whose map is block bm, is a clock with just the alarms L. -/
def ClockAt (w : World) (s bm : Nat) (L : List (Int × Int)) : Prop :=
  w.cell? ⟨s, 0, none⟩ = some (.map (some bm)) ∧ Al.Good L ∧ ∃ D, mapped w bm L D ∧ Al.Reads D L

theorem ClockAt.lt {w : World} {s bm : Nat} {L : List (Int × Int)} (h : ClockAt w s bm L) : s < w.heap.size ∧ bm < w.heap.size ∧ s ≠ bm := by
  obtain ⟨hc, _, D, hown, _⟩ := h
  refine ⟨World.block_lt_of_cell? _ _ hc, hown.lt, fun e => ?_⟩
  subst e
  obtain ⟨es, clock, hb, _⟩ := hown
  simp [World.cell?, hb] at hc
theorem ClockAt.kept {w w' : World} {s bm : Nat} {L : List (Int × Int)} {row : Option Nat} (h : ClockAt w s bm L) (hg : w.grownBy w' row) (h1 : some s ≠ row) (h2 : some bm ≠ row) : ClockAt w' s bm L := by
  obtain ⟨hc, hG, D, hown, hR⟩ := h
  exact ⟨hg.cell hc h1, hG, D, hown.kept hg h2, hR⟩
theorem ClockAt.turned {w w' : World} {s bm : Nat} {L L' : List (Int × Int)} (h : ClockAt w s bm L) (hg : w.grownBy w' (some bm)) (hG : Al.Good L') {n : Nat} {D : DataW Unit} (hown : w'.ownsMap Try.prog 3 (plainElem Try.prog 3) bm n D) (hR : Al.Reads D L') : ClockAt w' s bm L' := by
  have hne := h.lt.2.2
  obtain ⟨hc, _, _⟩ := h
  refine ⟨hg.cell hc (by simpa using hne), hG, D, ?_, hR⟩
  have := tight hown
  rw [hR.size] at this
  exact this

theorem grown_refl (w : World) (row : Option Nat) : w.grownBy w row := ⟨rfl, rfl, rfl, Nat.le_refl _, fun _ _ _ => rfl⟩
theorem grown_trans {a b c : World} {row : Option Nat} (h : a.grownBy b row) (k : b.grownBy c row) : a.grownBy c row :=
  ⟨k.os.trans h.os, k.tape.trans h.tape, k.output.trans h.output, Nat.le_trans h.size k.size, fun i hi hr => (k.block i (Nat.lt_of_lt_of_le hi h.size) hr).trans (h.block i hi hr)⟩

theorem fits_yes {x : Int} (w : World) (h : Al.fits x) : Calls Try.prog 27 #[.int .i64 x] w fun e w' => e = .returned (.bool true) ∧ w' = w := by
  obtain ⟨h1, h2⟩ := h
  go_enter Try.func27, Try.ntmps27
  go_wp2
  all_goals go_ret
  all_goals exact ⟨rfl, rfl⟩
theorem fits_no {x : Int} (w : World) (h : ¬ Al.fits x) : Calls Try.prog 27 #[.int .i64 x] w fun e w' => e = .returned (.bool false) ∧ w' = w := by
  by_cases h1 : 0 ≤ x
  · have h2 : ¬ x ≤ 1099511627776 := fun h2 => h ⟨h1, h2⟩
    clear h
    go_enter Try.func27, Try.ntmps27
    go_wp2
    all_goals go_ret
    all_goals exact ⟨rfl, rfl⟩
  · clear h
    go_enter Try.func27, Try.ntmps27
    go_wp2
    all_goals go_ret
    all_goals exact ⟨rfl, rfl⟩
theorem alarms_any {s : Nat} {v : Value} (w : World) (h : w.cell? ⟨s, 0, none⟩ = some v) : Calls Try.prog 30 #[.pointer (some ⟨s, 0, none⟩)] w fun e w' => e = .returned v ∧ w' = w := by
  go_enter Try.func30, Try.ntmps30
  go_wp2
  go_ret
  exact ⟨rfl, rfl⟩
theorem alarms_nil (w : World) : Calls Try.prog 30 #[.pointer none] w fun e w' => e = .returned (.map none) ∧ w' = w := by
  go_enter Try.func30, Try.ntmps30
  go_wp2
  go_ret
  exact ⟨rfl, rfl⟩
theorem len_any {s bm : Nat} {L : List (Int × Int)} (w : World) (h : ClockAt w s bm L) : Calls Try.prog 21 #[.pointer (some ⟨s, 0, none⟩)] w fun e w' => e = .returned (.int .i64 L.length) ∧ w' = w := by
  obtain ⟨hc, _, D, hown, hR⟩ := h
  have hsz := hR.size
  go_enter Try.func21, Try.ntmps21
  go_wp2_with fail
  refine (alarms_any w hc).mono ?_
  rintro e w' ⟨rfl, rfl⟩
  go_wp2_with (first | (at_len; refine wpList_len_own _ rfl _ 75 rfl 3 3 Try.underlying75 _ bm _ D rfl hown ?_) | go_in)
  go_ret
  exact ⟨rfl, rfl⟩
theorem len_nil (w : World) : Calls Try.prog 21 #[.pointer none] w fun e w' => e = .returned (.int .i64 0) ∧ w' = w := by
  have hl := fun ty => Maps.len_nil (P := Try.prog) (w := w) Try.underlying75 ty
  go_enter Try.func21, Try.ntmps21
  go_wp2_with fail
  refine (alarms_nil w).mono ?_
  rintro e w' ⟨rfl, rfl⟩
  go_wp2
  go_ret
  exact ⟨rfl, rfl⟩
theorem at_any {s bm : Nat} {L : List (Int × Int)} {n : Int} (w : World) (h : ClockAt w s bm L) (hn : -9223372036854775808 ≤ n ∧ n ≤ 9223372036854775807) :
    Calls Try.prog 18 #[.pointer (some ⟨s, 0, none⟩), .int .i64 n] w fun e w' => e = .returned (.tuple #[.int .i64 ((Al.find L n).getD 0), .bool (Al.find L n).isSome]) ∧ w' = w := by
  obtain ⟨hc, _, D, hown, hR⟩ := h
  have hh : Hid _ := hR.has n
  have hz : Hid _ := hR.zero n
  have hkey := keyOf_int_mk Try.underlying3 (wf_i64 hn)
  go_enter Try.func18, Try.ntmps18
  go_wp2_with fail
  refine (alarms_any w hc).mono ?_
  rintro e w' ⟨rfl, rfl⟩
  go_wp2_with (first | (at_lookup; refine wpList_lookup_own_ok_int _ rfl _ _ 75 rfl 3 3 .i64 law3 Try.underlying75 Try.underlying3 (zero3 _) bm _ D rfl hown _ _ rfl hkey ?_; intro c hat hwc; rw [hh.out]; (obtain rfl : c = (Al.find L n).getD 0 := by rw [hz.out] at hat; cases hat; rfl)) | go_in)
  go_ret2
  exact ⟨rfl, rfl⟩
theorem at_nil {n : Int} (w : World) (hn : -9223372036854775808 ≤ n ∧ n ≤ 9223372036854775807) :
    Calls Try.prog 18 #[.pointer none, .int .i64 n] w fun e w' => e = .returned (.tuple #[.int .i64 0, .bool false]) ∧ w' = w := by
  have hrun := look_nil (w := w) true law3 Try.underlying75 (zero3 _) (keyOf_int_mk Try.underlying3 (wf_i64 hn))
  go_enter Try.func18, Try.ntmps18
  go_wp2_with fail
  refine (alarms_nil w).mono ?_
  rintro e w' ⟨rfl, rfl⟩
  go_wp2
  go_ret2
  exact ⟨rfl, rfl⟩
theorem new_any (w : World) : Calls Try.prog 9 #[] w fun e w' => e = .returned (.pointer (some ⟨w.heap.size + 1, 0, none⟩)) ∧ ClockAt w' (w.heap.size + 1) w.heap.size [] ∧ w.grownBy w' none := by
  have hmm := @run_makeMap Try.prog
  go_enter Try.func9, Try.ntmps9
  go_wp2
  go_ret
  refine ⟨rfl, ⟨?_, Al.good_nil, .map [], ?_, Al.reads_nil⟩, ?_⟩
  · rw [World.cell?_alloc_at _ _ _ _ (by simp)]; rfl
  · exact (World.ownsMap_made w Try.prog 3 _).alloc _
  · exact grown_trans (World.grownBy_alloc w _ none) (World.grownBy_alloc _ _ none)

/-! ### Set -/
theorem setArg_any {n a : Int} (p : Option Addr) (w : World) (h : ¬ (Al.fits n ∧ Al.fits a)) : Calls Try.prog 11 #[.pointer p, .int .i64 n, .int .i64 a] w fun e w' => e = .returned (.int .i64 1) ∧ w' = w := by
  by_cases hn : Al.fits n
  · have ha : ¬ Al.fits a := fun ha => h ⟨hn, ha⟩
    have c1 : Hid (Al.fits n) := hn
    have c2 : Hid (¬ Al.fits a) := ha
    clear h hn ha
    go_enter Try.func11, Try.ntmps11
    go_wp2_with fail
    refine (fits_yes _ c1.out).mono ?_
    rintro e w' ⟨rfl, rfl⟩
    go_wp2_with fail
    refine (fits_no _ c2.out).mono ?_
    rintro e w' ⟨rfl, rfl⟩
    go_wp2
    go_ret
    exact ⟨rfl, rfl⟩
  · have c1 : Hid (¬ Al.fits n) := hn
    clear h hn
    go_enter Try.func11, Try.ntmps11
    go_wp2_with fail
    refine (fits_no _ c1.out).mono ?_
    rintro e w' ⟨rfl, rfl⟩
    go_wp2
    go_ret
    exact ⟨rfl, rfl⟩
theorem setNil_any {n a : Int} (w : World) (h : Al.fits n ∧ Al.fits a) : Calls Try.prog 11 #[.pointer none, .int .i64 n, .int .i64 a] w fun e w' => e = .returned (.int .i64 5) ∧ w' = w := by
  have c1 : Hid (Al.fits n) := h.1
  have c2 : Hid (Al.fits a) := h.2
  clear h
  go_enter Try.func11, Try.ntmps11
  go_wp2_with fail
  refine (fits_yes _ c1.out).mono ?_
  rintro e w' ⟨rfl, rfl⟩
  go_wp2_with fail
  refine (fits_yes _ c2.out).mono ?_
  rintro e w' ⟨rfl, rfl⟩
  go_wp2
  go_ret
  exact ⟨rfl, rfl⟩
theorem setFull_any {s bm : Nat} {L : List (Int × Int)} {n a : Int} (w : World) (hk : ClockAt w s bm L) (h : Al.fits n ∧ Al.fits a) (hf : Al.find L n = none) (hl : 256 ≤ L.length) :
    Calls Try.prog 11 #[.pointer (some ⟨s, 0, none⟩), .int .i64 n, .int .i64 a] w fun e w' => e = .returned (.int .i64 5) ∧ w' = w := by
  have c1 : Hid (Al.fits n) := h.1
  have c2 : Hid (Al.fits a) := h.2
  have hkey := keyOf_int_mk Try.underlying3 (a := n) (wf_i64 (by have := h.1; simp only [Al.fits] at this; omega))
  clear h
  obtain ⟨hc, _, D, hown, hR⟩ := hk
  have hh : Hid (Maps.has D (.int .i64 n) = false) := by have := hR.has n; rw [hf] at this; exact this
  have hlen := fun ty => hown.len Try.underlying75 ty
  have hsz := hR.size
  have hl' : (256 : Int) ≤ (L.length : Int) := by omega
  clear hf hl
  go_enter Try.func11, Try.ntmps11
  go_wp2_with fail
  refine (fits_yes _ c1.out).mono ?_
  rintro e w' ⟨rfl, rfl⟩
  go_wp2_with fail
  refine (fits_yes _ c2.out).mono ?_
  rintro e w' ⟨rfl, rfl⟩
  go_wp2_with (first | (at_lookup; refine wpList_lookup_own_ok_int _ rfl _ _ 75 rfl 3 3 .i64 law3 Try.underlying75 Try.underlying3 (zero3 _) bm _ D rfl hown _ _ rfl hkey ?_; intro c hat hwc; rw [hh.out]) | go_in)
  go_ret
  exact ⟨rfl, rfl⟩
set_option maxRecDepth 100000 in
theorem setOk_any {s bm : Nat} {L : List (Int × Int)} {n a : Int} (w : World) (hk : ClockAt w s bm L) (h : Al.fits n ∧ Al.fits a) (hr : (Al.find L n).isSome = true ∨ L.length < 256) :
    Calls Try.prog 11 #[.pointer (some ⟨s, 0, none⟩), .int .i64 n, .int .i64 a] w fun e w' => e = .returned (.int .i64 0) ∧ ClockAt w' s bm (Al.set L n a) ∧ w.grownBy w' (some bm) := by
  have c1 : Hid (Al.fits n) := h.1
  have c2 : Hid (Al.fits a) := h.2
  have hkey := keyOf_int_mk Try.underlying3 (a := n) (wf_i64 (by have := h.1; simp only [Al.fits] at this; omega))
  have hwa := wf_i64 (x := a) (by have := h.2; simp only [Al.fits] at this; omega)
  have HK : Hid (ClockAt w s bm L) := hk
  have hG' : Hid (Al.Good (Al.set L n a)) := hk.2.1.set h.1 h.2 hr
  clear h
  obtain ⟨hc, hG, D, hown, hR⟩ := hk
  have hR' : Hid _ := hR.put (hown.tidy law3) hG.nodup n a
  have hlen := fun ty => hown.len Try.underlying75 ty
  have hsz := hR.size
  have hes := eqlSome bm
  have hmx : Hid (L.length < maxLen) := by have := hG.len; show _ < _; unfold maxLen; omega
  rcases hr with hr | hr
  · have hh : Hid (Maps.has D (.int .i64 n) = true) := by have := hR.has n; rw [hr] at this; exact this
    clear hr hG hR
    go_enter Try.func11, Try.ntmps11
    go_wp2_with fail
    refine (fits_yes _ c1.out).mono ?_
    rintro e w' ⟨rfl, rfl⟩
    go_wp2_with fail
    refine (fits_yes _ c2.out).mono ?_
    rintro e w' ⟨rfl, rfl⟩
    go_wp2_with (first | (at_lookup; refine wpList_lookup_own_ok_int _ rfl _ _ 75 rfl 3 3 .i64 law3 Try.underlying75 Try.underlying3 (zero3 _) bm _ D rfl hown _ _ rfl hkey ?_; intro c hat hwc; rw [hh.out]) | (at_mapUpdate; refine wpList_mapUpdate_in _ rfl _ _ _ 75 rfl 3 3 law3 Try.underlying75 _ bm _ D rfl hown hmx.out _ _ _ rfl rfl hkey _ [] (plainElem_int Try.underlying3 hwa) ?_; intro w1 hown1 hturn1) | go_in)
    go_ret
    exact ⟨rfl, HK.out.turned hturn1.grown hG'.out hown1 hR'.out, hturn1.grown⟩
  · by_cases hp : (Al.find L n).isSome = true
    · have hh : Hid (Maps.has D (.int .i64 n) = true) := by have := hR.has n; rw [hp] at this; exact this
      clear hr hG hR hp
      go_enter Try.func11, Try.ntmps11
      go_wp2_with fail
      refine (fits_yes _ c1.out).mono ?_
      rintro e w' ⟨rfl, rfl⟩
      go_wp2_with fail
      refine (fits_yes _ c2.out).mono ?_
      rintro e w' ⟨rfl, rfl⟩
      go_wp2_with (first | (at_lookup; refine wpList_lookup_own_ok_int _ rfl _ _ 75 rfl 3 3 .i64 law3 Try.underlying75 Try.underlying3 (zero3 _) bm _ D rfl hown _ _ rfl hkey ?_; intro c hat hwc; rw [hh.out]) | (at_mapUpdate; refine wpList_mapUpdate_in _ rfl _ _ _ 75 rfl 3 3 law3 Try.underlying75 _ bm _ D rfl hown hmx.out _ _ _ rfl rfl hkey _ [] (plainElem_int Try.underlying3 hwa) ?_; intro w1 hown1 hturn1) | go_in)
      go_ret
      exact ⟨rfl, HK.out.turned hturn1.grown hG'.out hown1 hR'.out, hturn1.grown⟩
    · have hh : Hid (Maps.has D (.int .i64 n) = false) := by have := hR.has n; rw [Bool.not_eq_true] at hp; rw [hp] at this; exact this
      have hl' : ¬ (256 : Int) ≤ (L.length : Int) := by omega
      clear hr hG hR hp
      go_enter Try.func11, Try.ntmps11
      go_wp2_with fail
      refine (fits_yes _ c1.out).mono ?_
      rintro e w' ⟨rfl, rfl⟩
      go_wp2_with fail
      refine (fits_yes _ c2.out).mono ?_
      rintro e w' ⟨rfl, rfl⟩
      go_wp2_with (first | (at_lookup; refine wpList_lookup_own_ok_int _ rfl _ _ 75 rfl 3 3 .i64 law3 Try.underlying75 Try.underlying3 (zero3 _) bm _ D rfl hown _ _ rfl hkey ?_; intro c hat hwc; rw [hh.out]) | (at_mapUpdate; refine wpList_mapUpdate_in _ rfl _ _ _ 75 rfl 3 3 law3 Try.underlying75 _ bm _ D rfl hown hmx.out _ _ _ rfl rfl hkey _ [] (plainElem_int Try.underlying3 hwa) ?_; intro w1 hown1 hturn1) | go_in)
      go_ret
      exact ⟨rfl, HK.out.turned hturn1.grown hG'.out hown1 hR'.out, hturn1.grown⟩

/-! ### Stop -/
theorem stopArg_any {n : Int} (p : Option Addr) (w : World) (h : ¬ Al.fits n) : Calls Try.prog 13 #[.pointer p, .int .i64 n] w fun e w' => e = .returned (.tuple #[.bool false, .int .i64 1]) ∧ w' = w := by
  have c1 : Hid (¬ Al.fits n) := h
  clear h
  go_enter Try.func13, Try.ntmps13
  go_wp2_with fail
  refine (fits_no _ c1.out).mono ?_
  rintro e w' ⟨rfl, rfl⟩
  go_wp2
  go_ret2
  exact ⟨rfl, rfl⟩
theorem stopNil_any {n : Int} (w : World) (h : Al.fits n) : Calls Try.prog 13 #[.pointer none, .int .i64 n] w fun e w' => e = .returned (.tuple #[.bool false, .int .i64 0]) ∧ w' = w := by
  have c1 : Hid (Al.fits n) := h
  have hkey := keyOf_int_mk Try.underlying3 (a := n) (wf_i64 (by simp only [Al.fits] at h; omega))
  have hrun := look_nil (w := w) true law3 Try.underlying75 (zero3 _) hkey
  have hdel := fun ty => drop_nil (w := w) law3 Try.underlying75 hkey ty
  clear h
  go_enter Try.func13, Try.ntmps13
  go_wp2_with fail
  refine (fits_yes _ c1.out).mono ?_
  rintro e w' ⟨rfl, rfl⟩
  go_wp2_with fail
  refine (alarms_nil _).mono ?_
  rintro e w' ⟨rfl, rfl⟩
  go_wp2_with fail
  refine (alarms_nil _).mono ?_
  rintro e w' ⟨rfl, rfl⟩
  go_wp2
  go_ret2
  exact ⟨rfl, rfl⟩
theorem stopOk_any {s bm : Nat} {L : List (Int × Int)} {n : Int} (w : World) (hk : ClockAt w s bm L) (h : Al.fits n) :
    Calls Try.prog 13 #[.pointer (some ⟨s, 0, none⟩), .int .i64 n] w fun e w' => e = .returned (.tuple #[.bool (Al.find L n).isSome, .int .i64 0]) ∧ ClockAt w' s bm (Al.drop L n) ∧ w.grownBy w' (some bm) := by
  have c1 : Hid (Al.fits n) := h
  have hkey := keyOf_int_mk Try.underlying3 (a := n) (wf_i64 (by simp only [Al.fits] at h; omega))
  clear h
  have HK : Hid (ClockAt w s bm L) := hk
  obtain ⟨hc, hG, D, hown, hR⟩ := hk
  have hG' : Hid (Al.Good (Al.drop L n)) := hG.drop n
  have hR' : Hid _ := hR.del (hown.tidy law3) hG.nodup n
  have hh : Hid _ := hR.has n
  clear hG hR
  go_enter Try.func13, Try.ntmps13
  go_wp2_with fail
  refine (fits_yes _ c1.out).mono ?_
  rintro e w' ⟨rfl, rfl⟩
  go_wp2_with fail
  refine (alarms_any _ hc).mono ?_
  rintro e w' ⟨rfl, rfl⟩
  go_wp2_with (first | (at_lookup; refine wpList_lookup_own_ok_int _ rfl _ _ 75 rfl 3 3 .i64 law3 Try.underlying75 Try.underlying3 (zero3 _) bm _ D rfl hown _ _ rfl hkey ?_; intro c hat hwc; rw [hh.out]) | fail)
  refine (alarms_any _ hc).mono ?_
  rintro e w' ⟨rfl, rfl⟩
  go_wp2_with (first | (at_delete; refine wpList_delete_own _ rfl _ _ 75 3 rfl 3 law3 Try.underlying75 _ bm _ D rfl hown _ _ rfl hkey ?_; intro w1 hown1 hturn1) | go_in)
  go_ret2
  exact ⟨rfl, HK.out.turned hturn1.grown hG'.out hown1 hR'.out, hturn1.grown⟩
end Go.Proofs.Ytlhobncpifklkaa
