/-
  SpaceStays.
-/
import Derived.Test.YtacghcoikekfeaaGreatM17
namespace Go.Proofs.YtacghcoikekfeaaGreat
open Go.ChangeShapes Go.WideShapes Go.ChangeAt Go.RowKit Go.Deep It
set_option maxRecDepth 100000
set_option maxRecDepth 100000
/-- Steps that came in. -/
abbrev OverQ (w : World) (ao : Option Addr) (L : List Stp) : Prop := ∀ i x, L[i]? = some x → ∃ b off, ao = some ⟨b, off, none⟩ ∧ True ∧ b < w.heap.size ∧ ∀ k u, (EQ.cells x)[k]? = some u → w.cell? ⟨b, off + (i * EQ.sz + k), none⟩ = some u
def okS (L : List Stp) : Prop := ∀ x ∈ L, x.2.2.2.1.size ≤ maxLen ∧ x.2.2.2.2.size ≤ maxLen
theorem sp_len {L : List Rw} (h : Sp.isSp (pl L) = true) : L.length ≤ 24 := by
  have := (Sp.right_len (Sp.isSp_iff.1 h).1).2
  simpa using this
set_option maxHeartbeats 8000000 in
theorem spaceStays_any (v : Value) (Q : List Stp) (w : World) (hv : AtW EQ w v Q) (hs : okS Q) :
    Calls Tryz.prog 7 #[v] w fun e w' => e = .returned (.bool true) ∧ Below w.heap.size w w' := by
  obtain ⟨ao, cap, rfl, hm, hx⟩ := hv.open
  clear hv
  unfold maxLen at hm
  obtain ⟨N, hN⟩ : ∃ N, Q.length = N := ⟨_, rfl⟩
  rw [hN] at hm ⊢
  have HN : Hid (Q.length = N) := hN
  have HX : Hid (OverQ w ao Q) := hx
  have HS : Hid (okS Q) := hs
  clear hN hx hs
  go_enter Tryz.func7, Tryz.ntmps7
  go_wp2_with fail
  refine (new_any _).mono ?_
  rintro e w1 ⟨u1, L1, rfl, ht1, hp1, hb1⟩
  obtain ⟨p1, z1, hu1, -, -⟩ := ht1.open
  obtain ⟨m1, hm1⟩ : ∃ m, L1.length = m := ⟨_, rfl⟩
  rw [hm1] at hu1
  subst hu1
  have HT1 : Hid (TabW w1 (.slice p1 m1 z1) L1 ∧ Sp.isSp (pl L1) = true) := ⟨tab_wide ht1, by rw [hp1]; exact Sp.isSp_new⟩
  have HB1 : Hid (Below w.heap.size w w1) := hb1
  clear ht1 hp1 hm1 hb1
  by_cases h60 : (60 : Int) < (N : Int)
  · go_wp2_with fail
    refine (little_any _).mono ?_
    rintro e w7 ⟨rfl, hb7⟩
    have HB7 : Hid (Below w.heap.size w w7) := HB1.out.trans (hb7.mono HB1.out.size)
    clear hb7
    go_wp2
    go_ret
    exact ⟨rfl, HB7.out⟩
  go_wp2
  go_loopw [3, 15] (fun t i wr => ∃ (k : Nat) (p : Option Addr) (m z : Nat) (T : List Rw), k ≤ N ∧ i = .int .i64 k ∧ t = .slice p m z ∧ Hid (TabW wr (.slice p m z) T ∧ Sp.isSp (pl T) = true) ∧ Hid (Below w.heap.size w wr)) (fun _ i _ => N - (intOf i).toNat)
  case atStart => exact ⟨0, p1, m1, z1, L1, Nat.zero_le _, rfl, rfl, HT1, HB1⟩
  case round =>
    obtain ⟨k, p, m, z, T, hk, rfl, rfl, HT, HB⟩ := hrel
    have hsz := HB.out.size
    by_cases hlt : k < N
    · obtain ⟨x, hxk⟩ : ∃ x, Q[k]? = some x := ⟨_, List.getElem?_eq_getElem (by rw [HN.out]; exact hlt)⟩
      obtain ⟨b, off, rfl, -, hB, hc⟩ := HX.out k x hxk
      have HSX := HS.out x (List.mem_of_getElem? hxk)
      obtain ⟨q, d, t, s, s2⟩ := x
      have HSY : Hid (s.size ≤ maxLen ∧ s2.size ≤ maxLen) := HSX
      have a := fun j u hj => (HB.out.cell (p := ⟨b, off + (k * EQ.sz + j), none⟩) hB).trans (hc j u hj)
      have c0 : wr.cell? ⟨b, off + k * 5, none⟩ = some (.int .i64 q) := a 0 _ rfl
      have c1 : wr.cell? ⟨b, off + k * 5 + 1, none⟩ = some (.int .i64 d) := a 1 _ rfl
      have c2 : wr.cell? ⟨b, off + k * 5 + 2, none⟩ = some (.int .i64 t) := a 2 _ rfl
      have c3 : wr.cell? ⟨b, off + k * 5 + 3, none⟩ = some (.string s) := a 3 _ rfl
      have c4 : wr.cell? ⟨b, off + k * 5 + 4, none⟩ = some (.string s2) := a 4 _ rfl
      clear a hc hxk HSX
      have hlt' : (k : Int) < (N : Int) := by omega
      obtain ⟨W2, hW2⟩ : ∃ W, W = wr.alloc (BQ q d t s s2) := ⟨_, rfl⟩
      have bw2 : Below wr.heap.size wr W2 := by rw [hW2]; exact (Below.refl _ _).alloc (Nat.le_refl _) _
      have HB2 : Hid (Below w.heap.size w W2) := HB.out.trans (bw2.mono hsz)
      have HT2 : Hid (TabW W2 (.slice p m z) T ∧ Sp.isSp (pl T) = true) := ⟨HT.out.1.up bw2, HT.out.2⟩
      have HTL : Hid (T.length ≤ 1466015503701) := Nat.le_trans (sp_len HT.out.2) (by decide)
      clear bw2
      go_wp2_with fail
      rw [← hW2]
      clear hW2 c0 c1 c2 c3 c4
      refine (sdo_any _ T q d t s s2 k _ HT2.out.1 (Sp.okN_sp HT2.out.2) HTL.out HSY.out.1 HSY.out.2).mono ?_
      rintro e w3 ⟨u3, T3, rfl, ht3, hp3, hb3⟩
      obtain ⟨p3, z3, hu3, -, -⟩ := ht3.open
      obtain ⟨m3, hm3⟩ : ∃ m, T3.length = m := ⟨_, rfl⟩
      rw [hm3] at hu3
      subst hu3
      obtain ⟨e3, he3⟩ : ∃ e, Sp.doE (pl T) q d t s s2 k = e := ⟨_, rfl⟩
      rw [he3]
      have HB3 : Hid (Below w.heap.size w w3) := HB2.out.trans (hb3.mono HB2.out.size)
      by_cases h0 : e3 = 0
      · subst h0
        have HT3 : Hid (TabW w3 (.slice p3 m3 z3) T3 ∧ Sp.isSp (pl T3) = true) := ⟨ht3, by rw [hp3]; exact Sp.do_stays he3⟩
        clear ht3 hp3 hm3 hb3 he3
        go_wp2_with fail
        refine (rspace_any _ _ T3 _ HT3.out.1 (Sp.okN_sp HT3.out.2)).mono ?_
        rintro e w4 ⟨rfl, hb4⟩
        rw [HT3.out.2]
        have HT4 : Hid (TabW w4 (.slice p3 m3 z3) T3 ∧ Sp.isSp (pl T3) = true) := ⟨HT3.out.1.up hb4, HT3.out.2⟩
        have HB4 : Hid (Below w.heap.size w w4) := HB3.out.trans (hb4.mono HB3.out.size)
        clear hb4
        go_wp2_with fail
        refine (scheck_any _ _ T3 _ HT4.out.1 (Sp.okN_sp HT4.out.2)).mono ?_
        rintro e w5 ⟨rfl, hb5⟩
        have hck : Sp.chk Sp.isSp (pl T3) = 0 := by unfold Sp.chk; rw [if_pos HT4.out.2]
        rw [hck]
        have HT5 : Hid (TabW w5 (.slice p3 m3 z3) T3 ∧ Sp.isSp (pl T3) = true) := ⟨HT4.out.1.up hb5, HT4.out.2⟩
        have HB5 : Hid (Below w.heap.size w w5) := HB4.out.trans (hb5.mono HB4.out.size)
        clear hb5 hck
        go_wp2
        go_roundw
        case rel => exact ⟨k + 1, p3, m3, z3, T3, by omega, by go_num, rfl, HT5, HB5⟩
        case measure => simp [intOf]; omega
      · have hnil : T3 = [] := by
          have h1 : pl T3 = [] := by rw [hp3]; exact Sp.do_none (by rw [he3]; exact h0)
          simpa using h1
        have hm0 : m3 = 0 := by rw [← hm3, hnil]; rfl
        subst hm0
        have t0 : (e3 != 0) = true := by simpa using h0
        have HT3 : Hid (TabW w3 (.slice p m z) T ∧ Sp.isSp (pl T) = true) := ⟨HT2.out.1.up hb3, HT2.out.2⟩
        clear ht3 hp3 hm3 hb3 he3 hnil
        go_wp2
        go_roundw
        case rel => exact ⟨k + 1, p, m, z, T, by omega, by go_num, rfl, HT3, HB3⟩
        case measure => simp [intOf]; omega
    · obtain rfl : k = N := by omega
      go_wp2_with fail
      refine (scheck_any _ _ T _ HT.out.1 (Sp.okN_sp HT.out.2)).mono ?_
      rintro e w5 ⟨rfl, hb5⟩
      have hck : Sp.chk Sp.isSp (pl T) = 0 := by unfold Sp.chk; rw [if_pos HT.out.2]
      rw [hck]
      have HB5 : Hid (Below w.heap.size w w5) := HB.out.trans (hb5.mono HB.out.size)
      clear hb5 hck
      go_wp2_with fail
      refine (little_any _).mono ?_
      rintro e w7 ⟨rfl, hb7⟩
      have HB7 : Hid (Below w.heap.size w w7) := HB5.out.trans (hb7.mono HB5.out.size)
      clear hb7
      go_wp2
      go_ret
      exact ⟨rfl, HB7.out⟩

theorem open_stp {H : Type} {enc : TypeId × Value → H} {w : World} {n : Nat} {cs : List Value} {d : DataW H} {pl : List MemPlace} (hl : cs.length = EQ.sz) (h : DataW.trod enc Tryz.prog w 0 (fun _ => true) true n 57 cs = some (d, pl)) : ∃ x : Stp, cs = EQ.cells x ∧ (x.2.2.2.1.size ≤ maxLen ∧ x.2.2.2.2.size ≤ maxLen) := by
  obtain ⟨xs, m, _, hxy, _, hxl, hg⟩ := DataW.trod_struct Tryz.underlying57 h
  match cs, hl with
  | [c0, c1, c2, c3, c4], _ =>
    have g0 := hg 0 _ rfl
    have g1 := hg 1 _ rfl
    have g2 := hg 2 _ rfl
    have g3 := hg 3 _ rfl
    have g4 := hg 4 _ rfl
    have hx5 : xs.length = 5 := by rw [hxl]; rfl
    match xs, hx5 with
    | [y0, y1, y2, y3, y4], _ =>
      simp only [List.getElem_toArray, List.getElem_cons_zero, List.getElem_cons_succ] at g0 g1 g2 g3 g4
      simp only [show Tryz.prog.cellsOf 9 = 1 from by kernel_rfl, show Tryz.prog.cellsOf 3 = 1 from by kernel_rfl] at g0 g1 g2 g3 g4
      simp at g0 g1 g2 g3 g4
      obtain ⟨a, e0, _, _⟩ := DataW.trod_int Tryz.underlying3 g0
      obtain ⟨b, e1, _, _⟩ := DataW.trod_int Tryz.underlying3 g1
      obtain ⟨c, e2, _, _⟩ := DataW.trod_int Tryz.underlying3 g2
      obtain ⟨s, e3, _, hs3⟩ := DataW.trod_string Tryz.underlying9 g3
      obtain ⟨s2, e4, _, hs4⟩ := DataW.trod_string Tryz.underlying9 g4
      simp only [List.cons.injEq, and_true] at e0 e1 e2 e3 e4
      subst e0 e1 e2 e3 e4
      exact ⟨(a, b, c, s, s2), rfl, hs3, hs4⟩
theorem open_stps {H : Type} {enc : TypeId × Value → H} {w : World} {v : Value} {d : DataW H} {p : List MemPlace} (hv : ∃ a len cap, v = .slice a len cap) (h : DataW.Trod enc Tryz.prog w 0 (fun _ => true) true 54 v d p) : ∃ L, AtW EQ w v L ∧ okS L := by
  obtain ⟨a, len, cap, rfl⟩ := hv
  obtain ⟨fuel, hf⟩ := h
  have : Inhabited Stp := ⟨(0, 0, 0, .empty, .empty)⟩
  obtain ⟨L, h1, h2⟩ := open_row EQ Tryz.underlying54 (by kernel_rfl) (by decide) (Q := fun x _ => x.2.2.2.1.size ≤ maxLen ∧ x.2.2.2.2.size ≤ maxLen) (fun n cs d pl hl h => open_stp hl h) (by simpa [Value.cells] using hf)
  refine ⟨L, h1, fun x hx => ?_⟩
  rcases h2 with ⟨_, rfl⟩ | ⟨es, sp, _, _, hq⟩
  · cases hx
  · obtain ⟨i, hi⟩ := List.mem_iff_getElem?.1 hx
    obtain ⟨d, _, hd⟩ := hq i x hi
    exact hd

set_option maxRecDepth 100000 in
theorem spaceStays_lifted (os : Os) (started : os.Started) (H : Type) (enc : TypeId × Value → H) :
    ReturnsInHanded {} Tryz.checked os 7 .any (Rows.spaceStaysSpec.pre6 enc Tryz.prog Tryz.f7 Rows.spaceStaysRow.domain false) (Rows.spaceStaysSpec.post enc Tryz.prog Tryz.f7 false true false false) := by
  refine returnsInHanded_of_change (C := Tryz.checked) own started (by kernel_rfl) Tryz.func7
    (ChangeSpec.witness6 (enc := enc) (C := Tryz.checked) false ⟨#[], #[.slice none 0 0], []⟩ 8 (by kernel_rfl) (by kernel_rfl) (by kernel_rfl) (by kernel_rfl)) ?_
  intro W base args ds gs before hval0 hW hcnd _
  have hval : ∀ (j : Nat) t v, Tryz.f7.params[j]? = some t → args[j]? = some v → Value.okWide Tryz.prog W .any base t v := hval0
  have hW' := hW
  obtain ⟨p, q, hA0, hV, rfl, hfz, hnd⟩ := hW
  have hA : DataW.TrodAll enc Tryz.prog W 0 (fun _ => true) true Tryz.f7.params.toList args.toList ds p := hA0
  rw [Tryz.params7] at hA hval
  obtain ⟨v0, d0, rfl, rfl, h0⟩ := trodAll_one hA
  obtain ⟨rfl, rfl⟩ := trodVars_none hV
  obtain ⟨L, hL, hs⟩ := open_stps (okWide_slice Tryz.underlying54 (hval 0 54 v0 rfl rfl)) h0
  refine (spaceStays_any v0 L W hL hs).mono fun e W' ⟨he, hg⟩ => ⟨_, he, ?_⟩
  exact Law.post laidOut (by kernel_rfl) rfl Tryz.underlying4 hW' rfl rfl hg

theorem spaceStays_holds : Rows.SpaceStaysSaid :=
  OpenClaim.holds_of_wide 7 Tryz.f7 rfl rfl rfl rfl rfl rfl rfl ⟨rfl, rfl, rfl, rfl, rfl⟩ rfl rfl rfl rfl rfl (by kernel_rfl) Tryz.func7 (by kernel_rfl)
    (of_decide_eq_true (by kernel_rfl)) (by unfold Func.isWrapper; first | (rw [if_pos (by decide +kernel)]; kernel_rfl) | (rw [if_neg (by decide +kernel)]; exact ⟨rfl, rfl⟩))
    (fun os started H enc _ => spaceStays_lifted os started H enc)
#print axioms spaceStays_holds
end Go.Proofs.YtacghcoikekfeaaGreat
