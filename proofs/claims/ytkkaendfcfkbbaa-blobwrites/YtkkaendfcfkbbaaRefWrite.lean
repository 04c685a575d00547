/-
  The document's Write: what it answers at any runs, place and bytes.
-/
import Derived.Test.YtkkaendfcfkbbaaRefCut
import Derived.Test.YtkkaendfcfkbbaaPlainV
namespace Go.Proofs.Ytkkaendfcfkbbaa
open Go.ChangeShapes Go.WideShapes Go.ChangeAt Go.RowKit Go.Deep

abbrev BO (a : Int) (c : UInt8) : Obj := .cells #[.int .i64 a, .int .u8 (c.toNat : Int)] 56
theorem row_below {W W' : World} {base : Nat} {v : Value} {n : Nat} {xs : List Value} {R : Nat} {o : Obj} (_h : W.ownsRow base 56 2 v n xs) (hne : v.ownBlock ≠ some R) (hg : W.grownBy W' v.ownBlock) (hb : W.heap[R]? = some o) : W'.heap[R]? = some o :=
  (hg.block R (Array.getElem?_eq_some_iff.1 hb).1 (fun e => hne e.symm)).trans hb
theorem block_lt {W : World} {R : Nat} {o : Obj} (h : W.heap[R]? = some o) : R < W.heap.size := (Array.getElem?_eq_some_iff.1 h).1
theorem ne_of_lies {v : Value} {g H R : Nat} (h : v.ownBlock = some g ∨ g = H) (hne : v.ownBlock ≠ some R) (hR : R < H) {n c : Nat} : (Value.slice (some ⟨g, 0, none⟩) n c).ownBlock ≠ some R := by
  intro e
  simp only [Value.ownBlock, Option.some.injEq] at e
  subst e
  rcases h with h | h
  · exact hne h
  · omega

set_option maxHeartbeats 4000000 in
theorem refWrite_ok (v : Value) (l : List Bl.R) (at_ : Int) (d : ByteArray) (w : World) (hv : FieldsAt w.heap.size w v l) (hok : okFields l) (hr : Bl.right (-1) l) (h0 : 0 ≤ at_) (h1 : at_ + (d.size : Int) ≤ 1048576) :
    Calls Try.prog 16 #[v, .int .i64 at_, .string d] w fun e w' => ∃ r, e = .returned (.tuple #[r, .int .i64 0]) ∧ FieldsAt w'.heap.size w' r (Bl.write l at_ d) ∧ Below w.heap.size w w' := by
  obtain ⟨i1, hi, hz0, hz1, hz2⟩ := info_parts infoOne
  have HV : Hid (FieldsAt w.heap.size w v l) := hv
  have HR : Hid (Bl.right (-1) l) := hr
  have HD : Hid (decide (Bl.right (-1) l) = true) := decide_eq_true hr
  obtain ⟨ao, cap, rfl, hm, _⟩ := hv.open
  clear hv
  obtain ⟨nl, hnl⟩ : ∃ nl, l.length = nl := ⟨_, rfl⟩
  rw [hnl] at HV ⊢
  have h0' : ¬ at_ < 0 := by omega
  have h2' : ¬ (1048576 : Int) < (d.size : Int) := by omega
  have h3' : ¬ (1048576 : Int) - (d.size : Int) < at_ := by omega
  clear hnl hm hr
  go_enter Try.func16, Try.ntmps16
  go_wp2_with fail
  refine (right_any _ l _ HV.out hok).mono ?_
  rintro e w0 ⟨rfl, hb0⟩
  rw [HD.out]
  have HB0 : Hid (Below w.heap.size w w0) := hb0
  have HF0 : Hid (FieldsAt w0.heap.size w0 (.slice ao nl cap) l) := HV.out.up hb0
  clear hb0
  go_wp2_with fail
  refine (ones_any _ l _ HF0.out HR.out).mono ?_
  rintro e w1 ⟨r1, rfl, hown1, hb1⟩
  have HB1 : Hid (Below w.heap.size w w1) := HB0.out.trans (hb1.mono HB0.out.size)
  have hO := OnesAt.of_own hown1
  clear hb1 hown1
  obtain ⟨hbl0, hpl⟩ := ones_bd HR.out
  have HRW : Hid (Bl.right (-1) (Bl.write l at_ d)) := Bl.write_right HR.out h0 h1
  have HGE : Hid (Bl.goes (Bl.ones l) at_ d true (Bl.ones l).length = Bl.ones (Bl.write l at_ d)) := Bl.goes_end HR.out
  have HPW : Hid ((Bl.ones l).Pairwise (fun a b : Bl.Q => a.1 < b.1)) := (Bl.ones_rises l (-1) HR.out).1
  obtain ⟨L, hL⟩ : ∃ L, Bl.ones l = L := ⟨_, rfl⟩
  rw [hL] at hO hbl0 hpl HGE HPW
  have HP : Hid (∀ q ∈ L, 0 ≤ q.1 ∧ q.1 ≤ 1048576) := hpl
  clear hL hpl
  obtain ⟨bo, capo, rfl, hmo, hx⟩ := hO
  unfold maxLen at hmo
  obtain ⟨n, hn⟩ : ∃ n, L.length = n := ⟨_, rfl⟩
  rw [hn] at hmo hx hbl0 HGE ⊢
  have HN : Hid (L.length = n) := hn
  have HGL : Hid (∀ b k, (Bl.goes L at_ d b k).length ≤ 2 * n + d.size) := fun b k => by rw [← hn]; exact Bl.goes_length L at_ d b k
  have HX : Hid (∀ j, j < n → ∃ b off, bo = some ⟨b, off, none⟩ ∧ b < w1.heap.size ∧ w1.cell? ⟨b, off + j * 2, none⟩ = some (.int .i64 (L.getD j (0, 0)).1) ∧ w1.cell? ⟨b, off + j * 2 + 1, none⟩ = some (.int .u8 ((L.getD j (0, 0)).2.toNat : Int))) := hx
  clear hn hx
  go_wp2
  go_loopw [8, 9, 32] (fun o p i wr => ∃ (k : Nat) (b : Bool), k ≤ n ∧ i = .int .i64 k ∧ p = .bool b ∧ Bl.knows L at_ b k ∧ wr.ownsRow w1.heap.size 56 2 o (Bl.goes L at_ d b k).length (cells1 (Bl.goes L at_ d b k)) ∧ Below w1.heap.size w1 wr) (fun _ _ i _ => n - (intOf i).toNat)
  case atStart => exact ⟨0, false, Nat.zero_le _, rfl, rfl, (by unfold Bl.knows; simp), (by unfold Bl.goes; simpa [cells1] using World.ownsRow_nil _ _ _ _), Below.refl _ _⟩
  case round =>
    obtain ⟨k, b, hk, rfl, rfl, hkn, hown, hbl⟩ := hrel
    have hsz := hbl.size
    have HK : Hid (Bl.knows L at_ b k) := hkn
    have hgl := HGL.out b k
    clear hkn
    by_cases hlt : k < n
    · obtain ⟨bb, off, rfl, hB, c0, c1⟩ := HX.out k hlt
      have hk' : k < L.length := by rw [HN.out]; exact hlt
      rw [← hbl.cell (p := ⟨bb, off + k * 2, none⟩) hB] at c0
      rw [← hbl.cell (p := ⟨bb, off + k * 2 + 1, none⟩) hB] at c1
      obtain ⟨x, hxk⟩ : ∃ x, L.getD k (0, 0) = x := ⟨_, rfl⟩
      rw [hxk] at c0 c1
      have HXK : Hid (L.getD k (0, 0) = x) := hxk
      have hpx := HP.out x (by rw [← hxk]; simp [List.getD, hk'])
      clear hxk
      obtain ⟨xa, xc⟩ := x
      simp only at c0 c1 hpx
      obtain ⟨hp0, hp1⟩ := hpx
      have hlt' : (k : Int) < (n : Int) := by omega
      have hbw : bb < wr.heap.size := by omega
      have hby : xc.toNat < 256 := xc.toNat_lt
      have hwr : IntKind.i64.wrap (at_ + (d.size : Int)) = at_ + (d.size : Int) := wrap_int _ (by omega) (by omega)
      cases b with
      | false =>
        by_cases hc : at_ ≤ xa
        · have HK2 : Hid (Bl.knows L at_ true (k + 1)) := (Bl.knows_at hk' HXK.out (Bl.knows_in HPW.out hk' HXK.out hc)).2
          have HGI : Hid (Bl.goes L at_ d false k ++ Bl.onesFrom at_ d.data.toList = Bl.goes L at_ d true k) := Bl.goes_in HK.out
          have hgl := HGL.out true k
          have hgf := HGL.out false k
          have hxl : d.data.toList.length = d.size := by simp
          obtain ⟨P0, hP0⟩ : ∃ P0, Bl.goes L at_ d false k = P0 := ⟨_, rfl⟩
          rw [hP0] at hown HGI hgf
          clear hP0
          have hnlt : ¬ xa < at_ := by omega
          go_wp2
          obtain ⟨w0', hw0⟩ : ∃ w0', wr.alloc (BO xa xc) = w0' := ⟨_, rfl⟩
          obtain ⟨R, hR⟩ : ∃ R, wr.heap.size = R := ⟨_, rfl⟩
          have hown0 := hown.alloc (BO xa xc)
          have hbl0 := hbl.alloc hsz (BO xa xc)
          have hbox : (wr.alloc (BO xa xc)).heap[wr.heap.size]? = some (BO xa xc) := heap_alloc_new _ _
          have hne0 : u8.ownBlock ≠ some wr.heap.size := fun e => by have := (hown.lt _ e).2; omega
          rw [hw0] at hown0 hbl0 hbox
          rw [hR] at hbox hne0
          rw [hw0, hR]
          clear hw0 hown hbl c0 c1 hR hsz hbw
          go_loopw [8, 12] (fun t j wi => ∃ q : Nat, q ≤ d.size ∧ j = .int .i64 q ∧ wi.ownsRow w1.heap.size 56 2 t (P0 ++ Bl.onesFrom at_ (d.data.toList.take q)).length (cells1 (P0 ++ Bl.onesFrom at_ (d.data.toList.take q))) ∧ wi.heap[R]? = some (BO xa xc) ∧ t.ownBlock ≠ some R ∧ Below w1.heap.size w1 wi) (fun _ j _ => d.size - (intOf j).toNat)
          case atStart => exact ⟨0, Nat.zero_le _, rfl, by simpa [Bl.onesFrom] using hown0, hbox, hne0, hbl0⟩
          case round =>
            obtain ⟨q, hq, rfl, hown, hbx, hne, hbl⟩ := hrel
            have hsw := hbl.size
            by_cases hlq : q < d.size
            · have HOF : Hid (Bl.onesFrom at_ (d.data.toList.take (q + 1)) = Bl.onesFrom at_ (d.data.toList.take q) ++ [(at_ + (q : Int), d[q])]) := Bl.onesFrom_take_succ at_ d q hlq
              have hNl : (P0 ++ Bl.onesFrom at_ (d.data.toList.take q)).length ≤ 16777216 := by
                rw [List.length_append, Bl.onesFrom_length, List.length_take, hxl]
                omega
              obtain ⟨L0, hL0⟩ : ∃ L0, P0 ++ Bl.onesFrom at_ (d.data.toList.take q) = L0 := ⟨_, rfl⟩
              rw [hL0] at hown hNl
              have HL0 : Hid (P0 ++ Bl.onesFrom at_ (d.data.toList.take (q + 1)) = L0 ++ [(at_ + (q : Int), d[q])]) := by
                show P0 ++ Bl.onesFrom at_ (d.data.toList.take (q + 1)) = _
                rw [HOF.out, ← List.append_assoc, hL0]
              clear hL0
              have hlq' : (q : Int) < (d.size : Int) := by omega
              have hq0 : (0 : Int) ≤ (q : Int) := by omega
              have hbyq : (d[q]).toNat < 256 := (d[q]).toNat_lt
              have hwq : IntKind.i64.wrap (at_ + (q : Int)) = at_ + (q : Int) := wrap_int _ (by omega) (by omega)
              go_wp2_with (at_builtin; refine wpList_append_lies _ rfl (.tmp 50) (.tmp 58) 53 rfl w1.heap.size 56 i1 (.agg #[.int .i64 0, .int .u8 0]) 2 16 Try.underlying53 hi hz0 hz1 hz2 rfl (by decide) _ _ _ rfl (hown.alloc _) ⟨wr.heap.size, 0, none⟩ 1 1 [.int .i64 (at_ + (q : Int)), .int .u8 ((d[q]).toNat : Int)] rfl rfl (two_new _ _ (by simp) _ _ _) (one2b _ _) (by decide) (by unfold maxLen; omega) (by omega) (by simp; omega) (wr.heap.size + 1) (by simp) ?_; intro g2 cp2 w2 hown2 hgrow2 hat2 hlt2)
              go_roundw
              case rel =>
                refine ⟨q + 1, by omega, by go_num, ?_, row_below (hown.alloc _) hne hgrow2 ((Below.heap_alloc _ _ _ (block_lt hbx)).trans hbx), ne_of_lies hat2 hne (by have := block_lt hbx; omega), (hbl.alloc hsw _).grown hgrow2 (by simp; omega) (fun g hg => (hown.lt g hg).1)⟩
                rw [HL0.out, cells1_append, List.length_append]
                exact hown2
              case measure => simp [intOf]; omega
            · obtain rfl : q = d.size := by omega
              rw [List.take_of_length_le (by simp)] at hown
              rw [HGI.out] at hown
              obtain ⟨c0, c1⟩ := two_cells hbx
              by_cases hm : at_ + (d.size : Int) ≤ xa
              · have HG2 : Hid (Bl.goes L at_ d true (k + 1) = Bl.goes L at_ d true k ++ [(xa, xc)]) := Bl.goes_hi hk' HXK.out hc hm
                generalize Bl.goes L at_ d true k = G at hown HG2 hgl
                go_wp2_with (at_builtin; refine wpList_append_own _ rfl (.tmp 73) (.tmp 75) 53 rfl w1.heap.size 56 i1 (.agg #[.int .i64 0, .int .u8 0]) 2 16 Try.underlying53 hi hz0 hz1 hz2 rfl (by decide) _ _ _ rfl (hown.alloc _) ⟨wr.heap.size, 0, none⟩ 1 1 [.int .i64 xa, .int .u8 (xc.toNat : Int)] rfl rfl (two_new _ _ (by simp) _ _ _) (one2b _ _) (by unfold maxLen; omega) (by omega) (by simp; omega) ?_; intro v1 w2 hown2 hgrow2 _)
                go_roundw
                case rel =>
                  refine ⟨k + 1, true, by omega, by go_num, rfl, HK2.out, ?_, (hbl.alloc hsw _).grown hgrow2 (by simp; omega) (fun g hg => (hown.lt g hg).1)⟩
                  rw [HG2.out, List.length_append, cells1_append]
                  exact hown2
                case measure => simp [intOf]; omega
              · have HG2 : Hid (Bl.goes L at_ d true (k + 1) = Bl.goes L at_ d true k) := Bl.goes_mid hk' HXK.out hc hm
                have hm' : xa < at_ + (d.size : Int) := by omega
                go_wp2
                go_roundw
                case rel =>
                  refine ⟨k + 1, true, by omega, by go_num, rfl, HK2.out, ?_, hbl⟩
                  rw [HG2.out]
                  exact hown
                case measure => simp [intOf]; omega
        · have hc' : xa < at_ := by omega
          have HG : Hid (Bl.goes L at_ d false (k + 1) = Bl.goes L at_ d false k ++ [(xa, xc)] ∧ Bl.knows L at_ false (k + 1)) := Bl.goes_lo hk' HXK.out hc' HK.out
          generalize Bl.goes L at_ d false k = G at hown HG hgl
          go_wp2_with (at_builtin; refine wpList_append_own _ rfl (.tmp 73) (.tmp 75) 53 rfl w1.heap.size 56 i1 (.agg #[.int .i64 0, .int .u8 0]) 2 16 Try.underlying53 hi hz0 hz1 hz2 rfl (by decide) _ _ _ rfl ((hown.alloc _).alloc _) ⟨wr.heap.size + 1, 0, none⟩ 1 1 [.int .i64 xa, .int .u8 (xc.toNat : Int)] rfl rfl (two_new _ _ (by simp) _ _ _) (one2b _ _) (by unfold maxLen; omega) (by omega) (by simp; omega) ?_; intro v1 w2 hown2 hgrow2 _)
          go_roundw
          case rel =>
            refine ⟨k + 1, false, by omega, by go_num, rfl, HG.out.2, ?_, ((hbl.alloc hsz _).alloc (by simp; omega) _).grown hgrow2 (by simp; omega) (fun g hg => (hown.lt g hg).1)⟩
            rw [HG.out.1, List.length_append, cells1_append]
            exact hown2
          case measure => simp [intOf]; omega
      | true =>
        obtain ⟨hc, hk2⟩ := Bl.knows_at hk' HXK.out HK.out
        have hnlt : ¬ xa < at_ := by omega
        have HK2 : Hid (Bl.knows L at_ true (k + 1)) := hk2
        clear hk2
        simp only at hc
        by_cases hm : at_ + (d.size : Int) ≤ xa
        · have HG2 : Hid (Bl.goes L at_ d true (k + 1) = Bl.goes L at_ d true k ++ [(xa, xc)]) := Bl.goes_hi hk' HXK.out hc hm
          generalize Bl.goes L at_ d true k = G at hown HG2 hgl
          go_wp2_with (at_builtin; refine wpList_append_own _ rfl (.tmp 73) (.tmp 75) 53 rfl w1.heap.size 56 i1 (.agg #[.int .i64 0, .int .u8 0]) 2 16 Try.underlying53 hi hz0 hz1 hz2 rfl (by decide) _ _ _ rfl ((hown.alloc _).alloc _) ⟨wr.heap.size + 1, 0, none⟩ 1 1 [.int .i64 xa, .int .u8 (xc.toNat : Int)] rfl rfl (two_new _ _ (by simp) _ _ _) (one2b _ _) (by unfold maxLen; omega) (by omega) (by simp; omega) ?_; intro v1 w2 hown2 hgrow2 _)
          go_roundw
          case rel =>
            refine ⟨k + 1, true, by omega, by go_num, rfl, HK2.out, ?_, ((hbl.alloc hsz _).alloc (by simp; omega) _).grown hgrow2 (by simp; omega) (fun g hg => (hown.lt g hg).1)⟩
            rw [HG2.out, List.length_append, cells1_append]
            exact hown2
          case measure => simp [intOf]; omega
        · have HG2 : Hid (Bl.goes L at_ d true (k + 1) = Bl.goes L at_ d true k) := Bl.goes_mid hk' HXK.out hc hm
          have hm' : xa < at_ + (d.size : Int) := by omega
          go_wp2
          go_roundw
          case rel =>
            refine ⟨k + 1, true, by omega, by go_num, rfl, HK2.out, ?_, hbl.alloc hsz _⟩
            rw [HG2.out]
            exact hown.alloc _
          case measure => simp [intOf]; omega
    · obtain rfl : k = n := by omega
      have HB2 : Hid (Below w.heap.size w wr) := HB1.out.trans (hbl.mono HB1.out.size)
      have HML : Hid (Bl.made (Bl.ones (Bl.write l at_ d)) = Bl.write l at_ d) := Bl.made_ones HRW.out
      cases b with
      | true =>
        rw [HGE.out] at hown
        have HOO : Hid (OnesAt wr.heap.size wr u8 (Bl.ones (Bl.write l at_ d))) := OnesAt.of_own hown
        clear hown hbl
        go_wp2_with fail
        refine (made_any _ _ _ HOO.out (ones_bd HRW.out).1 (ones_bd HRW.out).2).mono ?_
        rintro e w3 ⟨r3, rfl, hown3, hb3⟩
        rw [HML.out] at hown3
        go_wp2
        go_ret2
        exact ⟨_, rfl, FieldsAt.of_own hown3, HB2.out.trans (hb3.mono HB2.out.size)⟩
      | false =>
        have HGI : Hid (Bl.goes L at_ d false k ++ Bl.onesFrom at_ d.data.toList = Bl.ones (Bl.write l at_ d)) := by
          show Bl.goes L at_ d false k ++ Bl.onesFrom at_ d.data.toList = _
          rw [Bl.goes_in HK.out, HGE.out]
        have hgf := HGL.out false k
        have hxl : d.data.toList.length = d.size := by simp
        obtain ⟨P0, hP0⟩ : ∃ P0, Bl.goes L at_ d false k = P0 := ⟨_, rfl⟩
        rw [hP0] at hown HGI hgf
        clear hP0
        go_wp2
        have hown0 := hown
        have hbl0 := hbl
        have hsw0 := hbl.size
        clear hown hbl
        go_loopw [8, 13] (fun t j wi => ∃ q : Nat, q ≤ d.size ∧ j = .int .i64 q ∧ wi.ownsRow w1.heap.size 56 2 t (P0 ++ Bl.onesFrom at_ (d.data.toList.take q)).length (cells1 (P0 ++ Bl.onesFrom at_ (d.data.toList.take q))) ∧ Below w1.heap.size w1 wi) (fun _ j _ => d.size - (intOf j).toNat)
        case atStart => exact ⟨0, Nat.zero_le _, rfl, by simpa [Bl.onesFrom] using hown0, hbl0⟩
        case round =>
          obtain ⟨q, hq, rfl, hown, hbl⟩ := hrel
          have hsw := hbl.size
          by_cases hlq : q < d.size
          · have HOF : Hid (Bl.onesFrom at_ (d.data.toList.take (q + 1)) = Bl.onesFrom at_ (d.data.toList.take q) ++ [(at_ + (q : Int), d[q])]) := Bl.onesFrom_take_succ at_ d q hlq
            have hNl : (P0 ++ Bl.onesFrom at_ (d.data.toList.take q)).length ≤ 16777216 := by
              rw [List.length_append, Bl.onesFrom_length, List.length_take, hxl]
              omega
            obtain ⟨L0, hL0⟩ : ∃ L0, P0 ++ Bl.onesFrom at_ (d.data.toList.take q) = L0 := ⟨_, rfl⟩
            rw [hL0] at hown hNl
            have HL0 : Hid (P0 ++ Bl.onesFrom at_ (d.data.toList.take (q + 1)) = L0 ++ [(at_ + (q : Int), d[q])]) := by
              show P0 ++ Bl.onesFrom at_ (d.data.toList.take (q + 1)) = _
              rw [HOF.out, ← List.append_assoc, hL0]
            clear hL0
            have hlq' : (q : Int) < (d.size : Int) := by omega
            have hq0 : (0 : Int) ≤ (q : Int) := by omega
            have hbyq : (d[q]).toNat < 256 := (d[q]).toNat_lt
            have hwq : IntKind.i64.wrap (at_ + (q : Int)) = at_ + (q : Int) := wrap_int _ (by omega) (by omega)
            go_wp2_with (at_builtin; refine wpList_append_lies _ rfl (.tmp 86) (.tmp 94) 53 rfl w1.heap.size 56 i1 (.agg #[.int .i64 0, .int .u8 0]) 2 16 Try.underlying53 hi hz0 hz1 hz2 rfl (by decide) _ _ _ rfl (hown.alloc _) ⟨wr.heap.size, 0, none⟩ 1 1 [.int .i64 (at_ + (q : Int)), .int .u8 ((d[q]).toNat : Int)] rfl rfl (two_new _ _ (by simp) _ _ _) (one2b _ _) (by decide) (by unfold maxLen; omega) (by omega) (by simp; omega) (wr.heap.size + 1) (by simp) ?_; intro g2 cp2 w2 hown2 hgrow2 hat2 hlt2)
            go_roundw
            case rel =>
              refine ⟨q + 1, by omega, by go_num, ?_, (hbl.alloc hsw _).grown hgrow2 (by simp; omega) (fun g hg => (hown.lt g hg).1)⟩
              rw [HL0.out, cells1_append, List.length_append]
              exact hown2
            case measure => simp [intOf]; omega
          · obtain rfl : q = d.size := by omega
            rw [List.take_of_length_le (by simp)] at hown
            rw [HGI.out] at hown
            have HB3 : Hid (Below w.heap.size w wr) := HB1.out.trans (hbl.mono HB1.out.size)
            have HOO : Hid (OnesAt wr.heap.size wr u8 (Bl.ones (Bl.write l at_ d))) := OnesAt.of_own hown
            clear hown hbl
            go_wp2_with fail
            refine (made_any _ _ _ HOO.out (ones_bd HRW.out).1 (ones_bd HRW.out).2).mono ?_
            rintro e w3 ⟨r3, rfl, hown3, hb3⟩
            rw [HML.out] at hown3
            go_wp2
            go_ret2
            exact ⟨_, rfl, FieldsAt.of_own hown3, HB3.out.trans (hb3.mono HB3.out.size)⟩

theorem refWrite_any (v : Value) (l : List Bl.R) (at_ : Int) (d : ByteArray) (w : World) (hv : FieldsAt w.heap.size w v l) (hok : okFields l) (hd : d.size ≤ maxLen) :
    Calls Try.prog 16 #[v, .int .i64 at_, .string d] w fun e w' => ∃ r, e = .returned (.tuple #[r, .int .i64 (Bl.wErr l at_ d)]) ∧ FieldsAt w'.heap.size w' r (Bl.wOut l at_ d) ∧ Below w.heap.size w w' := by
  unfold maxLen at hd
  by_cases he : Bl.wErr l at_ d = 0
  · obtain ⟨h1, h2, h3⟩ := Bl.wErr_ok he
    have ho : Bl.wOut l at_ d = Bl.write l at_ d := by unfold Bl.wOut; rw [if_pos he]
    rw [he, ho]
    exact refWrite_ok v l at_ d w hv hok h1 h2 h3
  · have ho : Bl.wOut l at_ d = [] := by unfold Bl.wOut; rw [if_neg he]
    rw [ho]
    have HV : Hid (FieldsAt w.heap.size w v l) := hv
    obtain ⟨ao, cap, rfl, hm, _⟩ := hv.open
    clear hv ho
    by_cases hr : Bl.right (-1) l
    · have HD : Hid (decide (Bl.right (-1) l) = true) := decide_eq_true hr
      by_cases h0 : at_ < 0
      · have HE : Hid (Bl.wErr l at_ d = 1) := by show Bl.wErr l at_ d = 1; unfold Bl.wErr; rw [if_pos hr, if_pos h0]
        rw [HE.out]
        clear he hr
        go_enter Try.func16, Try.ntmps16
        go_wp2_with fail
        refine (right_any _ l _ HV.out hok).mono ?_
        rintro e w1 ⟨rfl, hb1⟩
        rw [HD.out]
        go_wp2
        go_ret2
        exact ⟨_, rfl, .inl ⟨_, _, rfl, rfl⟩, hb1⟩
      · have HE : Hid (Bl.wErr l at_ d = 408 ∧ ((1048576 : Int) < d.size ∨ (1048576 : Int) - (d.size : Int) < at_)) := by
          have hf : 1048576 - (d.size : Int) < at_ := by
            refine Int.not_le.1 fun hle => he ?_
            unfold Bl.wErr
            rw [if_pos hr, if_neg h0, if_neg (by omega)]
          refine ⟨?_, .inr hf⟩
          unfold Bl.wErr
          rw [if_pos hr, if_neg h0, if_pos (by omega)]
        rw [HE.out.1]
        clear he hr
        by_cases h5 : (1048576 : Int) < (d.size : Int)
        · go_enter Try.func16, Try.ntmps16
          go_wp2_with fail
          refine (right_any _ l _ HV.out hok).mono ?_
          rintro e w1 ⟨rfl, hb1⟩
          rw [HD.out]
          go_wp2
          go_ret2
          exact ⟨_, rfl, .inl ⟨_, _, rfl, rfl⟩, hb1⟩
        · have h6 : (1048576 : Int) - (d.size : Int) < at_ := by
            rcases HE.out.2 with h | h
            · exact absurd h h5
            · exact h
          go_enter Try.func16, Try.ntmps16
          go_wp2_with fail
          refine (right_any _ l _ HV.out hok).mono ?_
          rintro e w1 ⟨rfl, hb1⟩
          rw [HD.out]
          go_wp2
          go_ret2
          exact ⟨_, rfl, .inl ⟨_, _, rfl, rfl⟩, hb1⟩
    · have HD : Hid (decide (Bl.right (-1) l) = false) := decide_eq_false hr
      have HE : Hid (Bl.wErr l at_ d = 80) := by show Bl.wErr l at_ d = 80; unfold Bl.wErr; rw [if_neg hr]
      rw [HE.out]
      clear he hr
      go_enter Try.func16, Try.ntmps16
      go_wp2_with fail
      refine (right_any _ l _ HV.out hok).mono ?_
      rintro e w1 ⟨rfl, hb1⟩
      rw [HD.out]
      go_wp2
      go_ret2
      exact ⟨_, rfl, .inl ⟨_, _, rfl, rfl⟩, hb1⟩
end Go.Proofs.Ytkkaendfcfkbbaa
