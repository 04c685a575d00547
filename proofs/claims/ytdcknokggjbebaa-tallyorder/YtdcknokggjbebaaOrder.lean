/-
  TallyOrder: for every list of bids the call answers true, and the argument reads as before. No condition.
-/
import Derived.Test.YtdcknokggjbebaaYOrd
import Derived.Test.YtdcknokggjbebaaLaw
namespace Go.Proofs.Ytdcknokggjbebaa
open Go.ChangeShapes Go.WideShapes Go.ChangeAt Go.RowKit Go.Deep
theorem neq_bid (w : World) (a b : Bd) : (binOp .neq 32 (VB a) (VB b)).run Try.prog w = .ok (.bool (!decide (a = b))) w := by
  obtain ⟨a0, a1, a2⟩ := a
  obtain ⟨b0, b1, b2⟩ := b
  have e : decide ((a0, a1, a2) = (b0, b1, b2)) = ((a0 == b0) && ((a1 == b1) && (a2 == b2))) := by
    rw [Bool.eq_iff_iff]
    simp
  rw [e]
  cases h0 : (a0 == b0) <;> cases h1 : (a1 == b1) <;> cases h2 : (a2 == b2) <;> go_simp <;> simp [h0, h1, h2]
theorem Ty.drop_perm {kp L Lb : List Bd} {d : Nat} {y : Bd} (hp : kp.Perm L) (hi : Ty.Inc L) (hib : Ty.Inc Lb) (hy : kp[d]? = some y) (hb : Lb.Perm (kp.drop (d + 1))) : (Ty.add Lb y).Perm (kp.drop d) := by
  have hlt := (List.getElem?_eq_some_iff.1 hy).1
  have e1 : kp.drop d = y :: kp.drop (d + 1) := by rw [List.drop_eq_getElem_cons hlt, (List.getElem?_eq_some_iff.1 hy).2]
  have hk := keys_perm hp hi
  rw [rows_keys] at hk
  have hk2 : ((y :: kp.drop (d + 1)).map (·.1)).Nodup := by rw [← e1]; exact hk.sublist ((List.drop_sublist d kp).map _)
  rw [List.map_cons, List.nodup_cons] at hk2
  have hh : Ty.has Lb y.1 = false := Ty.has_no.2 fun z hz e => hk2.1 (List.mem_map.2 ⟨z, hb.mem_iff.1 hz, e⟩)
  rw [e1]
  refine (Ty.app_perm hb.symm hib hh).symm.trans ?_
  exact List.perm_append_comm (l₁ := kp.drop (d + 1)) (l₂ := [y])
theorem grown_drew1 (w : World) : w.grownBy w.drew none := ⟨rfl, rfl, rfl, Nat.le_refl _, fun _ _ _ => rfl⟩
theorem set_self {l : List Bd} {j : Nat} {y : Bd} (h : l[j]? = some y) : l.set j y = l := by
  have hlt := (List.getElem?_eq_some_iff.1 h).1
  have : l[j] = y := (List.getElem?_eq_some_iff.1 h).2
  rw [← this]
  exact List.set_getElem_self hlt

theorem Row.cells3 {w : World} {B : Nat} {e : TypeId} {p : Option Addr} {n c k : Nat} {ls : List Bd} {x : Bd} (h : Row EB w B e (.slice p n c) ls) (hk : ls[k]? = some x) : ∃ g, p = some ⟨g, 0, none⟩ ∧ B ≤ g ∧ g < w.heap.size ∧ n = ls.length ∧ (w.cell? ⟨g, k * 3, none⟩ = some (.int .i64 x.1) ∧ w.cell? ⟨g, k * 3 + 1, none⟩ = some (.int .i64 x.2.1) ∧ w.cell? ⟨g, k * 3 + 2, none⟩ = some (.int .i64 x.2.2)) ∧ ∀ j, w.frozen? ⟨g, j, none⟩ = false := by
  have hat := h.at
  rcases h with ⟨h1, rfl⟩ | ⟨g, cap, cur, h1, hB, hg, -⟩
  · simp at hk
  · simp only [Value.slice.injEq] at h1
    obtain ⟨rfl, rfl, rfl⟩ := h1
    obtain ⟨ao, c', hv, -, hx⟩ := hat.open
    simp only [Value.slice.injEq] at hv
    obtain ⟨rfl, -, -⟩ := hv
    obtain ⟨b, off, e2, -, -, hc⟩ := hx k x hk
    simp only [Option.some.injEq, Addr.mk.injEq, and_true] at e2
    obtain ⟨rfl, rfl⟩ := e2
    have a := fun j u hj => (hc j u hj)
    have a0 := a 0 _ rfl
    have a1 := a 1 _ rfl
    have a2 := a 2 _ rfl
    rw [show EB.sz = 3 from rfl, Nat.zero_add] at a0 a1 a2
    refine ⟨g, rfl, hB, (Array.getElem?_eq_some_iff.1 hg).1, rfl, ⟨a0, a1, a2⟩, fun j => by simp [World.frozen?, hg]⟩
theorem three_older {w : World} {g j : Nat} {x : Bd} (h : w.cell? ⟨g, j, none⟩ = some (.int .i64 x.1) ∧ w.cell? ⟨g, j + 1, none⟩ = some (.int .i64 x.2.1) ∧ w.cell? ⟨g, j + 2, none⟩ = some (.int .i64 x.2.2)) {w' : World} (hb : Below w.heap.size w w') : w'.cell? ⟨g, j, none⟩ = some (.int .i64 x.1) ∧ w'.cell? ⟨g, j + 1, none⟩ = some (.int .i64 x.2.1) ∧ w'.cell? ⟨g, j + 2, none⟩ = some (.int .i64 x.2.2) :=
  have hl := World.block_lt_of_cell? _ _ h.1
  ⟨(hb.cell (p := ⟨g, j, none⟩) hl).trans h.1, (hb.cell (p := ⟨g, j + 1, none⟩) hl).trans h.2.1, (hb.cell (p := ⟨g, j + 2, none⟩) hl).trans h.2.2⟩
/-- What the law has behind its first loop's rounds. -/
structure Kp (W wr : World) (s1 b1 s2 b2 B0 : Nat) (v : Value) (kp L : List Bd) : Prop where
  tt : TT W wr s1 b1 s2 b2 L []
  row : Row EB wr B0 32 v kp
  perm : kp.Perm L
  up : B0 ≤ wr.heap.size
set_option maxRecDepth 100000 in
set_option maxHeartbeats 16000000 in
theorem order_any (v : Value) (l : List Bd) (w : World) (hv : AtW EB w v l) : Calls Try.prog 4 #[v] w fun e w' => e = .returned (.bool true) ∧ Below w.heap.size w w' := by
  obtain ⟨ao, cap, rfl, hm, hx⟩ := hv.open
  unfold maxLen at hm
  obtain ⟨n, hn⟩ : ∃ n, l.length = n := ⟨_, rfl⟩
  have HN : Hid (l.length = n) := hn
  rw [hn] at hm ⊢
  have HX : Hid (OverB w ao l) := hx
  obtain ⟨i0, hi, hz0, hz1, hz2⟩ := info_parts infoB
  have H7 : Hid (Pn.Is 7 3) := is7
  clear hn hx hv
  go_enter Try.func4, Try.ntmps4
  go_wp2_with fail
  refine (tnew_yes _ H7.out).mono ?_
  rintro e w1 ⟨rfl, ht1, hg1⟩
  have HT1 : Hid (TA w1 (w.heap.size + 1) w.heap.size 7 3 []) := ht1
  have HG1 : Hid (w.grownBy w1 none) := hg1
  clear ht1 hg1
  go_wp2_with fail
  refine (tnew_yes _ H7.out).mono ?_
  rintro e w2 ⟨rfl, ht2, hg2⟩
  have htt := tt_new HT1.out HG1.out ht2 hg2
  obtain ⟨s1, hs1⟩ : ∃ s1, w.heap.size + 1 = s1 := ⟨_, rfl⟩
  obtain ⟨s2, hs2⟩ : ∃ s2, w1.heap.size + 1 = s2 := ⟨_, rfl⟩
  obtain ⟨b1, hb1⟩ : ∃ b1, w.heap.size = b1 := ⟨_, rfl⟩
  obtain ⟨b2, hb2⟩ : ∃ b2, w1.heap.size = b2 := ⟨_, rfl⟩
  rw [hs1, hs2, hb1, hb2] at htt
  rw [hs1, hs2]
  have HTT : Hid (TT w w2 s1 b1 s2 b2 [] []) := htt
  obtain ⟨B0, hB0⟩ : ∃ B0, w2.heap.size = B0 := ⟨_, rfl⟩
  have HB0 : Hid (w2.heap.size = B0) := hB0
  have HLO : Hid (s1 < B0 ∧ b1 < B0 ∧ s2 < B0 ∧ b2 < B0 ∧ w.heap.size ≤ B0) := by
    rw [← hB0]
    exact ⟨htt.h1.lt.1, htt.h1.lt.2.1, htt.h2.lt.1, htt.h2.lt.2.1, htt.bel.size⟩
  clear ht2 hg2 htt hs1 hs2 hb1 hb2 HT1 HG1 hB0
  by_cases hbig : 100 < n
  · have hbig' : (100 : Int) < (n : Int) := by omega
    go_wp2_with fail
    refine (two_any _).mono ?_
    rintro e wz ⟨rfl, hb⟩
    have HBZ : Hid (Below w.heap.size w wz) := HTT.out.bel.trans (hb.mono HTT.out.bel.size)
    clear hb
    go_wp2
    go_ret
    exact ⟨rfl, HBZ.out⟩
  · have hbig' : ¬ (100 : Int) < (n : Int) := by omega
    have hn100 : n ≤ 100 := by omega
    clear hm hbig
    go_wp2
    go_loopw [7, 67] (fun u i wr => ∃ (k : Nat) (pp : Option Addr) (jj q : Nat) (kp L : List Bd), k ≤ n ∧ i = .int .i64 k ∧ u = .slice pp jj q ∧ Hid (Kp w wr s1 b1 s2 b2 B0 (.slice pp jj q) kp L)) (fun _ i _ => n - (intOf i).toNat)
    case atStart => exact ⟨0, none, 0, 0, [], [], Nat.zero_le _, rfl, rfl, HTT.out, Row.nil _ _ _ _, List.Perm.refl _, Nat.le_of_eq HB0.out.symm⟩
    case round =>
      obtain ⟨k, pp, jj, q, kp, L, hk, rfl, rfl, HK⟩ := hrel
      have HB : Hid (Below w.heap.size w wr) := HK.out.tt.bel
      have HL7 : Hid (L.length ≤ 7) := Ty.len_le is7 HK.out.tt.h1.ma.inc HK.out.tt.h1.ma.fits
      have HK7 : Hid (kp.length ≤ 7) := by rw [HK.out.perm.length_eq]; exact HL7.out
      have hjj : jj = kp.length := by obtain ⟨p, c, h⟩ := HK.out.row.slice; simp only [Value.slice.injEq] at h; exact h.2.1
      have hj7 : jj ≤ 7 := by rw [hjj]; exact HK7.out
      have HJJ : Hid (jj = kp.length) := hjj
      clear hjj
      by_cases hlt : k < n
      · obtain ⟨x, hxk⟩ : ∃ x, l[k]? = some x := ⟨_, List.getElem?_eq_getElem (by rw [HN.out]; exact hlt)⟩
        obtain ⟨bb, off, rfl, -, hB, hc⟩ := HX.out k x hxk
        obtain ⟨c0, c1, c2⟩ := bid_cells HB.out hB hc
        have hlt' : (k : Int) < (n : Int) := by omega
        have hup : Below wr.heap.size wr (wr.alloc (BB x)) := (Below.refl _ _).alloc (Nat.le_refl _) _
        have HTA : Hid (TT w (wr.alloc (BB x)) s1 b1 s2 b2 L []) := HK.out.tt.up hup
        have HRA : Hid (Row EB (wr.alloc (BB x)) B0 32 (.slice pp jj q) kp) := HK.out.row.up hup
        have HXB : Hid ((wr.alloc (BB x)).heap[wr.heap.size]? = some (BB x)) := heap_alloc_new _ _
        have HUPB : Hid (B0 ≤ wr.heap.size) := HK.out.up
        clear hc hxk hB hup
        go_wp2_with fail
        refine (tadd_any _ _ HTA.out.h1).mono ?_
        rintro e w3 ⟨rfl, ht3, hg3⟩
        have HT3 : Hid (TT w w3 s1 b1 s2 b2 (Ty.addL 7 L x) []) := HTA.out.one hg3 ht3
        have HX3 : Hid (w3.heap[wr.heap.size]? = some (BB x)) := (HTA.out.cells HXB.out).1 _ hg3
        have HR3 : Hid (Row EB w3 B0 32 (.slice pp jj q) kp) := HRA.out.kept hg3 (HRA.out.nomap HTA.out.h1.ma)
        have HU3 : Hid (B0 ≤ w3.heap.size) := Nat.le_trans HUPB.out (by have := hg3.size; simp at this; omega)
        obtain ⟨⟨d0, d1, d2⟩, -⟩ := bid_of HX3.out
        obtain ⟨X, hX⟩ : ∃ X, wr.heap.size = X := ⟨_, rfl⟩
        have HBX : Hid (B0 ≤ X) := by rw [← hX]; exact HUPB.out
        have HGX : Hid (∀ g, pp = some ⟨g, 0, none⟩ → g < X) := fun g hg => by
          subst hg
          rw [← hX]
          exact (HK.out.row.lt g rfl).2
        rw [hX] at HX3 d0 d1 d2 ⊢
        clear ht3 hg3 c0 c1 c2 HXB hX
        by_cases hf : Ty.Fits 7 x
        · have HE0 : Hid (Ty.addL 7 L x = Ty.add L x ∧ Ty.addE 7 x = 0) := by
            unfold Ty.addL Ty.addE
            exact ⟨if_pos hf, if_pos hf⟩
          have HT4 : Hid (TT w w3 s1 b1 s2 b2 (Ty.add L x) []) := by have := HT3.out; rwa [HE0.out.1] at this
          rw [HE0.out.2]
          cases hh : Ty.has L x.1 with
          | false =>
            have HEB : Hid (Ty.addB 7 L x = true) := by
              show Ty.addB 7 L x = true
              unfold Ty.addB
              rw [decide_eq_true hf, hh]
              rfl
            have HPE : Hid ((kp ++ [x]).Perm (Ty.add L x)) := Ty.app_perm HK.out.perm HK.out.tt.h1.ma.inc hh
            rw [HEB.out]
            have hup4 : Below w3.heap.size w3 (w3.alloc (BB x)) := (Below.refl _ _).alloc (Nat.le_refl _) _
            have HR4 : Hid (Row EB (w3.alloc (BB x)) B0 32 (.slice pp jj q) kp) := HR3.out.up hup4
            have HT5 : Hid (TT w (w3.alloc (BB x)) s1 b1 s2 b2 (Ty.add L x) []) := HT4.out.up hup4
            have HO : Hid (AtW EB (w3.alloc (BB x)) (.slice (some ⟨w3.heap.size, 0, none⟩) 1 1) [x]) := at_oneB (heap_alloc_new _ _)
            clear hf hh hup4
            go_wp2_with (at_builtin; refine wpList_row _ rfl _ _ 56 rfl EB (fun _ => True) B0 32 i0 _ 24 Try.underlying56 hi hz0 hz1 hz2 rfl _ kp rfl HR4.out _ [x] rfl HO.out (by have := HK7.out; unfold maxLen; simp only [List.length_cons, List.length_nil]; omega) (by have := HK7.out; simp only [List.length_cons, List.length_nil]; omega) (by have := HU3.out; simp; omega) ?_; intro v7 w7 hrow7 hg7 hloc7)
            have HEND : Hid (Kp w w7 s1 b1 s2 b2 B0 v7 (kp ++ [x]) (Ty.add L x)) := ⟨HT5.out.far HLO.out hg7 (fun g hg => (HR4.out.lt g hg).1), hrow7, HPE.out, by have h1 := hg7.size; have h2 := HU3.out; simp at h1; omega⟩
            clear hrow7 hg7 hloc7 d0 d1 d2
            obtain ⟨p7, n7, c7, rfl⟩ := HEND.out.row.slice3
            go_wp2
            go_roundw
            case rel => exact ⟨k + 1, p7, n7, c7, _, _, by omega, by go_num, rfl, HEND.out⟩
            case measure => simp [intOf]; omega
          | true =>
            have HEB : Hid (Ty.addB 7 L x = false) := by
              show Ty.addB 7 L x = false
              unfold Ty.addB
              rw [decide_eq_true hf, hh]
              rfl
            have HPE : Hid ((kp.map (Ty.swap x)).Perm (Ty.add L x)) := Ty.map_perm HK.out.perm HK.out.tt.h1.ma.inc hh
            rw [HEB.out]
            clear hf hh d0 d1 d2
            go_wp2
            go_loopw [90] (fun i wq => ∃ j : Nat, j ≤ jj ∧ i = .int .i64 j ∧ Hid (TT w wq s1 b1 s2 b2 (Ty.add L x) []) ∧ Hid (Row EB wq B0 32 (.slice pp jj q) (Ty.repl kp x j)) ∧ Hid (wq.heap[X]? = some (BB x)) ∧ Hid (B0 ≤ wq.heap.size)) (fun i _ => jj - (intOf i).toNat)
            case atStart => exact ⟨0, Nat.zero_le _, rfl, HT4.out, by rw [Ty.repl_zero]; exact HR3.out, HX3.out, HU3.out⟩
            case round =>
              obtain ⟨j, hj, rfl, HTQ, HRQ, HXQ, HUQ⟩ := hrel
              by_cases hlj : j < jj
              · obtain ⟨y, hyj⟩ : ∃ y, kp[j]? = some y := ⟨_, List.getElem?_eq_getElem (by rw [← HJJ.out]; exact hlj)⟩
                obtain ⟨hya, hys⟩ := Ty.repl_at (x := x) hyj
                have HYA : Hid ((Ty.repl kp x j)[j]? = some y) := hya
                have HYS : Hid (Ty.repl kp x (j + 1) = (Ty.repl kp x j).set j (Ty.swap x y)) := hys
                obtain ⟨g, rfl, hgB, hgl, -, ⟨c0, c1, c2⟩, hfz⟩ := HRQ.out.cells3 hya
                have HgX : Hid (g < X) := HGX.out g rfl
                obtain ⟨⟨x0, x1, x2⟩, -⟩ := bid_of HXQ.out
                have hXl : X < wr.heap.size := World.block_lt_of_cell? _ _ x0
                have x0' := fun o => (cell_older hXl o 0).trans x0
                have x1' := fun o => (cell_older hXl o 1).trans x1
                have x2' := fun o => (cell_older hXl o 2).trans x2
                have e0' := fun o => (cell_older hgl o (j * 3)).trans c0
                have e1' := fun o => (cell_older hgl o (j * 3 + 1)).trans c1
                have e2' := fun o => (cell_older hgl o (j * 3 + 2)).trans c2
                have hlj' : (j : Int) < (jj : Int) := by omega
                clear hyj hya hys x0 x1 x2
                by_cases hne : y.1 = x.1
                · have hne' : (y.1 == x.1) = true := by simp [hne]
                  have HSW : Hid (Ty.swap x y = x) := by show Ty.swap x y = x; unfold Ty.swap; rw [if_pos hne]
                  obtain ⟨V, hV⟩ : ∃ V, ((wr.setCell ⟨g, j * 3, none⟩ (.int .i64 x.1)).setCell ⟨g, j * 3 + 1, none⟩ (.int .i64 x.2.1)).setCell ⟨g, j * 3 + 2, none⟩ (.int .i64 x.2.2) = V := ⟨_, rfl⟩
                  have HV : Hid (((wr.setCell ⟨g, j * 3, none⟩ (.int .i64 x.1)).setCell ⟨g, j * 3 + 1, none⟩ (.int .i64 x.2.1)).setCell ⟨g, j * 3 + 2, none⟩ (.int .i64 x.2.2) = V) := hV
                  have hgV : wr.grownBy V (some g) := by rw [← hV]; exact grown_trans (grown_trans (grown_set _ _ _ _) (grown_set _ _ _ _)) (grown_set _ _ _ _)
                  have hup : Below V.heap.size V (V.alloc (BB y)) := (Below.refl _ _).alloc (Nat.le_refl _) _
                  have HEND : Hid (TT w (V.alloc (BB y)) s1 b1 s2 b2 (Ty.add L x) [] ∧ Row EB (V.alloc (BB y)) B0 32 (.slice (some ⟨g, 0, none⟩) jj q) (Ty.repl kp x (j + 1)) ∧ (V.alloc (BB y)).heap[X]? = some (BB x) ∧ B0 ≤ (V.alloc (BB y)).heap.size) := by
                    refine ⟨(HTQ.out.far HLO.out hgV (fun k hk => by cases hk; exact hgB)).up hup, ?_, ?_, ?_⟩
                    · rw [HYS.out, HSW.out]
                      refine Row.up ?_ hup
                      rw [← hV]
                      exact HRQ.out.set3 HYA.out
                    · have hne : some X ≠ some g := fun e => by have := HgX.out; have := Option.some.inj e; omega
                      exact (hup.block X (Nat.lt_of_lt_of_le hXl hgV.size)).trans ((hgV.block X hXl hne).trans HXQ.out)
                    · exact Nat.le_trans (Nat.le_trans HUQ.out hgV.size) hup.size
                  clear hne hgV hup hV
                  go_wp2
                  rw [HV.out]
                  go_roundw
                  case rel => exact ⟨j + 1, by omega, by go_num, HEND.out.1, HEND.out.2.1, HEND.out.2.2.1, HEND.out.2.2.2⟩
                  case measure => simp [intOf]; omega
                · have hne' : (y.1 == x.1) = false := by simp [hne]
                  have hup : Below wr.heap.size wr (wr.alloc (BB y)) := (Below.refl _ _).alloc (Nat.le_refl _) _
                  have HEND : Hid (TT w (wr.alloc (BB y)) s1 b1 s2 b2 (Ty.add L x) [] ∧ Row EB (wr.alloc (BB y)) B0 32 (.slice (some ⟨g, 0, none⟩) jj q) (Ty.repl kp x (j + 1)) ∧ (wr.alloc (BB y)).heap[X]? = some (BB x) ∧ B0 ≤ (wr.alloc (BB y)).heap.size) := by
                    refine ⟨HTQ.out.up hup, ?_, (hup.block X hXl).trans HXQ.out, Nat.le_trans HUQ.out hup.size⟩
                    have : Ty.swap x y = y := by unfold Ty.swap; rw [if_neg hne]
                    rw [HYS.out, this, set_self HYA.out]
                    exact HRQ.out.up hup
                  clear hne hup
                  go_wp2
                  go_roundw
                  case rel => exact ⟨j + 1, by omega, by go_num, HEND.out.1, HEND.out.2.1, HEND.out.2.2.1, HEND.out.2.2.2⟩
                  case measure => simp [intOf]; omega
              · obtain rfl : j = jj := by omega
                have HEND : Hid (Kp w wr s1 b1 s2 b2 B0 (.slice pp j q) (kp.map (Ty.swap x)) (Ty.add L x)) := ⟨HTQ.out, by have := HRQ.out; rwa [HJJ.out, Ty.repl_all, ← HJJ.out] at this, HPE.out, HUQ.out⟩
                go_wp2
                go_roundw
                case rel => exact ⟨k + 1, pp, j, q, _, _, by omega, by go_num, rfl, HEND.out⟩
                case measure => simp [intOf]; omega
        · have HE0 : Hid (Ty.addL 7 L x = L ∧ Ty.addE 7 x = 1 ∧ Ty.addB 7 L x = false) := by
            unfold Ty.addL Ty.addE Ty.addB
            exact ⟨if_neg hf, if_neg hf, by rw [decide_eq_false hf]; rfl⟩
          have HEND : Hid (Kp w w3 s1 b1 s2 b2 B0 (.slice pp jj q) kp L) := ⟨by have := HT3.out; rwa [HE0.out.1] at this, HR3.out, HK.out.perm, HU3.out⟩
          rw [HE0.out.2.1, HE0.out.2.2]
          clear hf d0 d1 d2
          go_wp2
          go_roundw
          case rel => exact ⟨k + 1, pp, jj, q, _, _, by omega, by go_num, rfl, HEND.out⟩
          case measure => simp [intOf]; omega
      · obtain rfl : k = n := by omega
        go_wp2
        go_loopw [108] (fun i wq => ∃ (j : Nat) (Lb : List Bd), j ≤ jj ∧ i = .int .i64 j ∧ Hid (TT w wq s1 b1 s2 b2 L Lb) ∧ Hid (Row EB wq B0 32 (.slice pp jj q) kp) ∧ Hid (Lb.Perm (kp.drop (jj - j)))) (fun i _ => jj - (intOf i).toNat)
        case atStart => exact ⟨0, [], Nat.zero_le _, rfl, HK.out.tt, HK.out.row, by rw [HJJ.out, Nat.sub_zero, List.drop_length]; exact List.Perm.refl _⟩
        case round =>
          obtain ⟨j, Lb, hj, rfl, HTQ, HRQ, HPQ⟩ := hrel
          by_cases hlj : j < jj
          · obtain ⟨d, hd⟩ : ∃ d : Nat, jj = j + d + 1 := ⟨jj - j - 1, by omega⟩
            obtain ⟨y, hyj⟩ : ∃ y, kp[d]? = some y := ⟨_, List.getElem?_eq_getElem (by rw [← HJJ.out]; omega)⟩
            have HYJ : Hid (kp[d]? = some y) := hyj
            obtain ⟨g, rfl, hgB, hgl, -, ⟨c0, c1, c2⟩, hfz⟩ := HRQ.out.cells3 hyj
            have hlj' : (j : Int) < (jj : Int) := by omega
            have hdd : (jj : Int) - 1 - (j : Int) = (d : Int) := by omega
            have hdl : (d : Int) < (jj : Int) := by omega
            have HFY : Hid (Ty.Fits 7 y) := HTQ.out.h1.ma.fits y (HK.out.perm.mem_iff.1 (List.mem_of_getElem? hyj))
            have HD : Hid (jj - j = d + 1 ∧ jj - (j + 1) = d) := ⟨by omega, by omega⟩
            clear hyj hd
            go_wp2_with fail
            refine (tadd_yes y _ HTQ.out.h2 HFY.out).mono ?_
            rintro e w3 ⟨rfl, ht3, hg3⟩
            have HEND : Hid (TT w w3 s1 b1 s2 b2 L (Ty.add Lb y) ∧ Row EB w3 B0 32 (.slice (some ⟨g, 0, none⟩) jj q) kp ∧ (Ty.add Lb y).Perm (kp.drop (jj - (j + 1)))) := by
              refine ⟨HTQ.out.two hg3 ht3, HRQ.out.kept hg3 (HRQ.out.nomap HTQ.out.h2.ma), ?_⟩
              rw [HD.out.2]
              have h1 := HPQ.out
              rw [HD.out.1] at h1
              exact Ty.drop_perm HK.out.perm HTQ.out.h1.ma.inc HTQ.out.h2.ma.inc HYJ.out h1
            clear ht3 hg3 c0 c1 c2 hfz
            go_wp2
            go_roundw
            case rel => exact ⟨j + 1, _, by omega, by go_num, HEND.out.1, HEND.out.2.1, HEND.out.2.2⟩
            case measure => simp [intOf]; omega
          · obtain rfl : j = jj := by omega
            have HLB : Hid (Lb = L) := by
              have h1 := HPQ.out
              rw [Nat.sub_self, List.drop_zero] at h1
              exact Ty.perm_eq HK.out.perm h1 HTQ.out.h1.ma.inc HTQ.out.h2.ma.inc
            have HT5 : Hid (TT w wr s1 b1 s2 b2 L L) := by have := HTQ.out; rwa [HLB.out] at this
            have HLEN : Hid (L.length = j) := by
              show L.length = j
              rw [← HK.out.perm.length_eq, ← HJJ.out]
            obtain ⟨be, hbe⟩ : ∃ be, Ty.best L = be := ⟨_, rfl⟩
            obtain ⟨ee, hee⟩ : ∃ ee, Ty.bestE L = ee := ⟨_, rfl⟩
            have HBE : Hid (Ty.best L = be ∧ Ty.bestE L = ee) := ⟨hbe, hee⟩
            obtain ⟨zz, hzz⟩ : ∃ zz, decide ((0 : Int) < (j : Int)) = zz := ⟨_, rfl⟩
            have hez : (ee == 0) = zz := by
              rw [← hzz, ← hee, Bool.eq_iff_iff]
              rw [beq_iff_eq, Ty.bestE_iff, HLEN.out]
              simp
            have hzz2 : (zz != zz) = false := by simp
            have hzz3 : decide (0 < j) = zz := by rw [← hzz]; simp
            have hee2 : (ee != ee) = false := by simp
            have hjj2 : ((j : Int) != (j : Int)) = false := by simp
            clear hbe hee HTQ HPQ HLB
            go_wp2_with fail
            refine (tbest_any _ HT5.out.h1).mono ?_
            rintro e w6 ⟨rfl, hb6⟩
            rw [HBE.out.1, HBE.out.2]
            obtain ⟨W6, hW6⟩ : ∃ W6, w6.alloc (BB be) = W6 := ⟨_, rfl⟩
            have hb6' : Below wr.heap.size wr W6 := by rw [← hW6]; exact hb6.alloc hb6.size _
            obtain ⟨x6, hx6⟩ : ∃ x6, w6.heap.size = x6 := ⟨_, rfl⟩
            have HW6 : Hid (w6.alloc (BB be) = W6) := hW6
            have HX6 : Hid (w6.heap.size = x6) := hx6
            have HT6 : Hid (TT w W6 s1 b1 s2 b2 L L) := HT5.out.up hb6'
            have HR6 : Hid (Row EB W6 B0 32 (.slice pp j q) kp) := HRQ.out.up hb6'
            have HXX6 : Hid (W6.heap[x6]? = some (BB be)) := by rw [← hW6, ← hx6]; exact heap_alloc_new _ _
            clear hb6 hb6' hW6 hx6
            go_wp2_with fail
            rw [HW6.out, HX6.out]
            refine (tbest_any _ HT6.out.h2).mono ?_
            rintro e w7 ⟨rfl, hb7⟩
            rw [HBE.out.1, HBE.out.2]
            obtain ⟨W7, hW7⟩ : ∃ W7, w7.alloc (BB be) = W7 := ⟨_, rfl⟩
            have HW7 : Hid (w7.alloc (BB be) = W7) := hW7
            have hb7' : Below W6.heap.size W6 W7 := by rw [← hW7]; exact hb7.alloc hb7.size _
            have HT7 : Hid (TT w W7 s1 b1 s2 b2 L L) := HT6.out.up hb7'
            have HR7 : Hid (Row EB W7 B0 32 (.slice pp j q) kp) := HR6.out.up hb7'
            have HXX7 : Hid (W7.heap[x6]? = some (BB be)) := (hb7'.block x6 (Array.getElem?_eq_some_iff.1 HXX6.out).1).trans HXX6.out
            obtain ⟨⟨z0, z1, z2⟩, -⟩ := bid_of ((hb7.block x6 (Array.getElem?_eq_some_iff.1 HXX6.out).1).trans HXX6.out)
            have z0' := fun o => (cell_older (World.block_lt_of_cell? _ _ z0) o 0).trans z0
            have z1' := fun o => (cell_older (World.block_lt_of_cell? _ _ z0) o 1).trans z1
            have z2' := fun o => (cell_older (World.block_lt_of_cell? _ _ z0) o 2).trans z2
            have hq : ∀ V, (binOp .neq 32 (VB be) (VB be)).run Try.prog V = .ok (.bool false) V := fun V => by have := neq_bid V be be; rwa [decide_eq_true rfl] at this
            clear hb7 hb7' hW7 z0 z1 z2
            go_wp2_with fail
            rw [HW7.out]
            refine (tCount_any _ HT7.out.h1).mono ?_
            rintro e w8 ⟨rfl, hb8⟩
            rw [HLEN.out]
            have HT8 : Hid (TT w w8 s1 b1 s2 b2 L L) := HT7.out.up hb8
            have HR8 : Hid (Row EB w8 B0 32 (.slice pp j q) kp) := HR7.out.up hb8
            have HXX8 : Hid (w8.heap[x6]? = some (BB be)) := (hb8.block x6 (Array.getElem?_eq_some_iff.1 HXX7.out).1).trans HXX7.out
            clear hb8 hq z0' z1' z2' HT7 HR7 HXX7 HW7
            go_wp2_with fail
            refine (tCount_any _ HT8.out.h2).mono ?_
            rintro e w9 ⟨rfl, hb9⟩
            rw [HLEN.out]
            have HT9 : Hid (TT w w9 s1 b1 s2 b2 L L) := HT8.out.up hb9
            have HR9 : Hid (Row EB w9 B0 32 (.slice pp j q) kp) := HR8.out.up hb9
            have HXX9 : Hid (w9.heap[x6]? = some (BB be)) := (hb9.block x6 (Array.getElem?_eq_some_iff.1 HXX8.out).1).trans HXX8.out
            clear hb9
            go_wp2_with fail
            refine (tCount_any _ HT9.out.h1).mono ?_
            rintro e w10 ⟨rfl, hb10⟩
            rw [HLEN.out]
            have HT10 : Hid (TT w w10 s1 b1 s2 b2 L L) := HT9.out.up hb10
            have HR10 : Hid (Row EB w10 B0 32 (.slice pp j q) kp) := HR9.out.up hb10
            have HXX10 : Hid (w10.heap[x6]? = some (BB be)) := (hb10.block x6 (Array.getElem?_eq_some_iff.1 HXX9.out).1).trans HXX9.out
            clear hb10
            go_wp2
            clear hez hzz hzz2 hzz3 hee2 hjj2
            go_loopw [164] (fun i wq => ∃ a : Nat, a ≤ j ∧ i = .int .i64 a ∧ Hid (Below w10.heap.size w10 wq)) (fun i _ => j - (intOf i).toNat)
            case atStart => exact ⟨0, Nat.zero_le _, rfl, Below.refl _ _⟩
            case round =>
              obtain ⟨a, ha, rfl, HBA⟩ := hrel
              have HRA : Hid (Row EB wr B0 32 (.slice pp j q) kp) := HR10.out.up HBA.out
              have HXA : Hid (wr.heap[x6]? = some (BB be)) := (HBA.out.block x6 (Array.getElem?_eq_some_iff.1 HXX10.out).1).trans HXX10.out
              have hsz := HBA.out.size
              by_cases hla : a < j
              · obtain ⟨y, hya⟩ : ∃ y, kp[a]? = some y := ⟨_, List.getElem?_eq_getElem (by rw [← HJJ.out]; exact hla)⟩
                obtain ⟨g, rfl, hgB, hgl, -, ⟨c0, c1, c2⟩, hfz⟩ := HRA.out.cells3 hya
                have hla' : (a : Int) < (j : Int) := by omega
                have HYL : Hid (y ∈ L) := HK.out.perm.mem_iff.1 (List.mem_of_getElem? hya)
                obtain ⟨V, hV⟩ : ∃ V, wr.alloc (BB y) = V := ⟨_, rfl⟩
                have HV : Hid (wr.alloc (BB y) = V) := hV
                have hbV : Below wr.heap.size wr V := by rw [← hV]; exact (Below.refl _ _).alloc (Nat.le_refl _) _
                have HXV : Hid (V.heap[x6]? = some (BB be)) := (hbV.block x6 (Array.getElem?_eq_some_iff.1 HXA.out).1).trans HXA.out
                have HYV : Hid (V.heap[wr.heap.size]? = some (BB y)) := by rw [← hV]; exact heap_alloc_new _ _
                have HBV : Hid (Below w10.heap.size w10 V) := HBA.out.trans (hbV.mono hsz)
                obtain ⟨Y, hY⟩ : ∃ Y, wr.heap.size = Y := ⟨_, rfl⟩
                have HY : Hid (wr.heap.size = Y) := hY
                rw [hY] at HYV
                obtain ⟨⟨d0, d1, d2⟩, -⟩ := bid_of HXV.out
                obtain ⟨⟨e0, e1, e2⟩, -⟩ := bid_of HYV.out
                clear hya hbV hV hY
                by_cases hne : y = be
                · have hq : ∀ V, (binOp .neq 32 (VB y) (VB be)).run Try.prog V = .ok (.bool false) V := fun V => by have := neq_bid V y be; rwa [decide_eq_true hne] at this
                  clear hne
                  go_wp2_with fail
                  rw [HV.out, HY.out]
                  go_quiet (fail)
                  go_wp2
                  go_roundw
                  case rel => exact ⟨a + 1, by omega, by go_num, Go.below_drewN HBV.out _⟩
                  case measure => simp [intOf]; omega
                · have hq : ∀ V, (binOp .neq 32 (VB y) (VB be)).run Try.prog V = .ok (.bool true) V := fun V => by have := neq_bid V y be; rwa [decide_eq_false hne] at this
                  have HBT : Hid (Ty.bet be y = true) := by
                    have h1 := HBE.out.1
                    show Ty.bet be y = true
                    rw [← h1]
                    exact Ty.best_beats HYL.out (by rw [h1]; exact hne)
                  have HS : Hid (∀ U, V.grownBy U none → U.cell? ⟨x6, 0, none⟩ = some (.int .i64 be.1) ∧ U.cell? ⟨x6, 1, none⟩ = some (.int .i64 be.2.1) ∧ U.cell? ⟨x6, 2, none⟩ = some (.int .i64 be.2.2) ∧ U.cell? ⟨Y, 0, none⟩ = some (.int .i64 y.1) ∧ U.cell? ⟨Y, 1, none⟩ = some (.int .i64 y.2.1) ∧ U.cell? ⟨Y, 2, none⟩ = some (.int .i64 y.2.2)) := fun U hU => ⟨hU.cell d0 (by simp), hU.cell d1 (by simp), hU.cell d2 (by simp), hU.cell e0 (by simp), hU.cell e1 (by simp), hU.cell e2 (by simp)⟩
                  have HRB : Hid (∀ U, Calls Try.prog 23 #[VB be, VB y] U fun e w' => e = .returned (.bool true) ∧ U.grownBy w' none) := fun U => by have := rbetter_any be y U; rwa [HBT.out] at this
                  have HBE2 : Hid (∀ U, V.grownBy U none → Below w10.heap.size w10 U) := fun U hU => HBV.out.trans ((below_none hU (Nat.le_refl _)).mono HBV.out.size)
                  clear hne d0 d1 d2 e0 e1 e2
                  go_wp2_with fail
                  rw [HV.out, HY.out]
                  go_region_held3 (fun U => U.cell? ⟨x6, 0, none⟩ = some (.int .i64 be.1) ∧ U.cell? ⟨x6, 1, none⟩ = some (.int .i64 be.2.1) ∧ U.cell? ⟨x6, 2, none⟩ = some (.int .i64 be.2.2) ∧ U.cell? ⟨Y, 0, none⟩ = some (.int .i64 y.1) ∧ U.cell? ⟨Y, 1, none⟩ = some (.int .i64 y.2.1) ∧ U.cell? ⟨Y, 2, none⟩ = some (.int .i64 y.2.2)) (first | exact HS.out _ (by assumption) | exact HS.out _ (grown_drew1 _)) (first
                    | (go_at_call 12; refine (lref_any _ _).mono ?_; rintro e u2 ⟨rfl, hg2⟩; have hg2' := grown_trans (by first | assumption | exact grown_drew1 _ : V.grownBy _ none) hg2; clear hg2)
                    | (go_at_call 23; refine (HRB.out _).mono ?_; rintro e u3 ⟨rfl, hg3⟩; have hg3' := grown_trans (by assumption : V.grownBy _ none) hg3; clear hg3))
                  all_goals
                    have HEB : Hid (Below w10.heap.size w10 u3) := HBE2.out _ hg3'
                    clear hg3'
                    go_wp2
                    go_roundw
                    case rel => exact ⟨a + 1, by omega, by go_num, HEB.out⟩
                    case measure => simp [intOf]; omega
              · obtain rfl : a = j := by omega
                have HBZ1 : Hid (Below w.heap.size w wr) := HT10.out.bel.trans (HBA.out.mono HT10.out.bel.size)
                go_wp2_with fail
                refine (two_any _).mono ?_
                rintro e wz ⟨rfl, hb⟩
                have HBZ : Hid (Below w.heap.size w wz) := HBZ1.out.trans (hb.mono HBZ1.out.size)
                clear hb
                go_wp2
                go_ret
                exact ⟨rfl, HBZ.out⟩

set_option maxRecDepth 100000 in
theorem tallyOrder_lifted (os : Os) (started : os.Started) (H : Type) (enc : TypeId × Value → H) :
    ReturnsInHanded {} Try.checked os 4 .any (Rows.tallyOrderSpec.pre6 enc Try.prog Try.f4 Rows.tallyOrderRow.domain false) (Rows.tallyOrderSpec.post enc Try.prog Try.f4 false true false false) := by
  refine returnsInHanded_of_change (C := Try.checked) own started (by kernel_rfl) Try.func4
    (ChangeSpec.witness6 (enc := enc) (C := Try.checked) false ⟨#[], #[.slice none 0 0], []⟩ 8 (by kernel_rfl) (by kernel_rfl) (by kernel_rfl) (by kernel_rfl)) ?_
  intro W base args ds gs before hval0 hW hcnd _
  have hval : ∀ (j : Nat) t v, Try.f4.params[j]? = some t → args[j]? = some v → Value.okWide Try.prog W .any base t v := hval0
  have hW' := hW
  obtain ⟨p, q, hA0, hV, rfl, hfz, hnd⟩ := hW
  have hA : DataW.TrodAll enc Try.prog W 0 (fun _ => true) true Try.f4.params.toList args.toList ds p := hA0
  rw [Try.params4] at hA hval
  obtain ⟨v0, d0, rfl, rfl, h0⟩ := trodAll_one hA
  obtain ⟨rfl, rfl⟩ := trodVars_none hV
  obtain ⟨x0, hl0⟩ := open_bids (hval 0 56 v0 rfl rfl) h0
  refine (order_any _ x0 W hl0).mono fun e W' ⟨he, hg⟩ => ⟨_, he, ?_⟩
  exact Law.post laidOut (by kernel_rfl) rfl Try.underlying4 hW' rfl rfl hg

theorem tallyOrder_holds : Rows.TallyOrderSaid :=
  OpenClaim.holds_of_wide 4 Try.f4 rfl rfl rfl rfl rfl rfl rfl ⟨rfl, rfl, rfl, rfl, rfl⟩ rfl rfl rfl rfl rfl (by kernel_rfl) Try.func4 (by kernel_rfl)
    (of_decide_eq_true (by kernel_rfl)) (by unfold Func.isWrapper; first | (rw [if_pos (by decide +kernel)]; kernel_rfl) | (rw [if_neg (by decide +kernel)]; exact ⟨rfl, rfl⟩))
    (fun os started H enc _ => tallyOrder_lifted os started H enc)
#print axioms tallyOrder_holds
end Go.Proofs.Ytdcknokggjbebaa
