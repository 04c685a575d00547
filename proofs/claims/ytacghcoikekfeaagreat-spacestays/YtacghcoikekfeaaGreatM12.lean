/-
  The texts SRef12, Sp20, Sp21, Sp22, RNm, RRe, as one.
-/
import Derived.Deep.OwnRows
import Derived.Test.YtacghcoikekfeaaGreatM11
/- SRef12 -/
namespace Go.Proofs.YtacghcoikekfeaaGreat
open Go.ChangeShapes Go.WideShapes Go.ChangeAt Go.RowKit Go.Deep It
set_option maxRecDepth 100000
/-- A list of things with texts does not lie in a box of two numbers. -/
theorem At.off_box {α : Type} {E : Enc α} {S : Nat → Prop} {w : World} {v : Value} {l : List α} {z : Nat} {p q : Int} (h : At E S w v l) (hz : w.heap[z]? = some (BH p q)) (k : Nat) (hk : ∀ x, ∃ s, (E.cells x)[k]? = some (.string s)) : At E (fun b => b ≠ z) w v l := by
  rcases h with h | ⟨b, off, cap, rfl, hS, hb, hp, hc, hm, hx⟩
  · exact .inl h
  · refine .inr ⟨b, off, cap, rfl, ?_, hb, hp, hc, hm, hx⟩
    rintro rfl
    obtain ⟨s, hs⟩ := hk l[0]
    have h1 := hx _ _ (E.flat_at l 0 l[0] (List.getElem?_eq_getElem hp) k _ hs)
    generalize off + (0 * E.sz + k) = i at h1
    simp only [World.cell?, hz] at h1
    rcases i with _ | _ | i <;> simp at h1
theorem Good.off_box {S : Nat → Prop} {w : World} {x : Rw} {z : Nat} {p q : Int} (h : Good S w x) (hz : w.heap[z]? = some (BH p q)) : Good (fun b => b ≠ z) w x :=
  ⟨h.1.off_box hz 1 fun y => ⟨y.2, rfl⟩, h.2.1.off_box hz 0 fun y => ⟨y.1, rfl⟩, h.2.2⟩
theorem Cp.off {T : Nat → Prop} {B : Nat} {w : World} {g n cap z : Nat} {p q : Int} {L : List Rw} (h : Cp T B w g n cap L) (hb : z < B) (hz : w.heap[z]? = some (BH p q)) : TabAt (fun b => b ≠ z) w (.slice (some ⟨g, 0, none⟩) n cap) L :=
  ⟨h.1.at.imp fun b hb _ => by omega, fun y hy => (h.2 y hy).off_box hz⟩
set_option maxHeartbeats 8000000 in
theorem rmakes_any {R : List Ino → Bool} (hR : RtSaid R) (hM : Sp.ChkMeans (Sp.chk R)) {S : Nat → Prop} (v : Value) (L : List Rw) (a b : Int) (s : ByteArray) (kind st : Int) (w : World) (hv : TabAt S w v L) (hok : Sp.okN L) (hs : s.size ≤ maxLen) :
    Calls Tryz.prog 18 #[v, .agg #[.int .i64 a, .int .i64 b], .string s, .int .i64 kind, .int .i64 st] w fun e w' =>
      ∃ u L', e = .returned (.tuple #[u, .agg #[.int .i64 (Sp.mkH (Sp.chk R) (pl L) a b s kind st).1, .int .i64 (Sp.mkH (Sp.chk R) (pl L) a b s kind st).2], .int .i64 (Sp.mkE (Sp.chk R) (pl L) a b s kind st)]) ∧ TabW w' u L' ∧ pl L' = Sp.mkT (Sp.chk R) (pl L) a b s kind st ∧ Below w.heap.size w w' := by
  obtain ⟨W, hW⟩ : ∃ W, W = (w.alloc (BH a b)).alloc (BH 0 0) := ⟨_, rfl⟩
  have HB0 : Hid (Below w.heap.size w W) := by show Below w.heap.size w W; rw [hW]; exact ((Below.refl _ w).alloc (Nat.le_refl _) _).alloc (by simp) _
  have HA0 : Hid (W.heap[w.heap.size]? = some (BH a b) ∧ W.heap[w.heap.size + 1]? = some (BH 0 0)) := by
    rw [hW]
    refine ⟨(Below.heap_alloc _ _ _ (by simp)).trans (heap_alloc_new _ _), ?_⟩
    have := heap_alloc_new (w.alloc (BH a b)) (BH 0 0)
    rwa [show (w.alloc (BH a b)).heap.size = w.heap.size + 1 by simp] at this
  have hws0 : w.heap.size + 1 < W.heap.size := by rw [hW]; simp
  have HV : Hid (TabAt S W v L) := hv.up HB0.out
  have HVW : Hid (∀ V, Below w.heap.size w V → TabAt S V v L) := fun V h => hv.up h
  obtain ⟨ao, cap, rfl, hm, hx⟩ := hv.open
  have HOK : Hid (Sp.okN L) := hok
  have HSM : Hid (s.size ≤ maxLen) := hs
  have HRR : Hid (RtSaid R) := hR
  have hno : ∀ e, Sp.makeErr (Sp.chk R) (pl L) a b s kind st = e → e ≠ 0 → Sp.mkE (Sp.chk R) (pl L) a b s kind st = e ∧ Sp.mkT (Sp.chk R) (pl L) a b s kind st = [] ∧ Sp.mkH (Sp.chk R) (pl L) a b s kind st = (0, 0) := fun e h h0 => by
    have h1 : Sp.mkE (Sp.chk R) (pl L) a b s kind st = e := by unfold Sp.mkE; rw [if_neg (by rw [h]; exact h0), h]
    exact ⟨h1, by unfold Sp.mkT; rw [if_neg (by rw [h1]; exact h0)], by unfold Sp.mkH; rw [if_neg (by rw [h1]; exact h0)]⟩
  clear hv hok hs hR hx hm
  by_cases hse : Sp.stErr (Sp.chk R) (pl L) st = 0
  · have HSE : Hid (Sp.stErr (Sp.chk R) (pl L) st = 0) := hse
    obtain ⟨hc0, hst1, hst2⟩ := Sp.stErr_zero hse
    obtain ⟨hr, -, hlen, -⟩ := hM _ hc0
    have HRT : Hid (It.right (pl L) = true) := hr
    by_cases hk : kind = 1 ∨ kind = 2
    · have hkk : ((kind != 1) = false) ∨ ((kind != 1) = true ∧ (kind != 2) = false) := by
        rcases hk with rfl | rfl
        · exact .inl rfl
        · exact .inr ⟨rfl, rfl⟩
      obtain ⟨ne, hne⟩ : ∃ ne, Sp.nameErr (pl L) a b s = ne := ⟨_, rfl⟩
      have HNE : Hid (Sp.nameErr (pl L) a b s = ne) := hne
      have hle : Sp.makeErr (Sp.chk R) (pl L) a b s kind st = ne := by unfold Sp.makeErr; rw [if_pos hse, if_pos hk, hne]
      obtain ⟨me, hme⟩ : ∃ me, It.makeErr (pl L) kind st = me := ⟨_, rfl⟩
      obtain ⟨q1, q2, hq⟩ : ∃ q1 q2, makeH (pl L) kind st = (q1, q2) := ⟨_, _, rfl⟩
      have HMH : Hid (makeH (pl L) kind st = (q1, q2) ∧ It.makeErr (pl L) kind st = me) := ⟨hq, hme⟩
      by_cases hn0 : ne = 0
      · subst hn0
        obtain ⟨kc, xc, rfl, hxc, hgc, hkc, hde, hdn, hfc, -⟩ := Sp.dir_get (Sp.nameErr_zero hne).1
        obtain ⟨yc, hyc, rfl⟩ := Sp.pl_some hxc
        by_cases hm0 : me = 0
        · subst hm0
          have hE : Sp.mkE (Sp.chk R) (pl L) kc b s kind st = Fo.addErr yc.i.ents yc.i.next s q1 q2 := by unfold Sp.mkE; rw [if_pos hle, if_pos hme, hde, hdn, hq]
          have hicd : findI (pl L) kc b = yc.i := by
            obtain ⟨k', x', h1, h2, -, -, h3, -⟩ := Sp.find_get hfc
            obtain rfl : kc = k' := by omega
            rw [hxc] at h2
            rw [h3]
            exact (Option.some.inj h2).symm
          obtain ⟨hr1, hkeep⟩ := Sp.make_keep hme
          have hx1 := hkeep kc yc.i hxc (by omega)
          have hlenc := hlen yc.i (List.mem_of_getElem? hxc)
          have HYC : Hid ((∀ e ∈ yc.i.ents, e.1.size ≤ maxLen) ∧ (makeTab (pl L) kind st)[kc]? = some yc.i ∧ (makeTab (pl L) kind st).length ≤ 24) := ⟨HOK.out yc (List.mem_of_getElem? hyc), hx1, (Sp.right_len hr1).2⟩
          by_cases hae : Fo.addErr yc.i.ents yc.i.next s q1 q2 = 0
          · have hT : Sp.mkT (Sp.chk R) (pl L) kc b s kind st = (makeTab (pl L) kind st).set kc (Sp.filled yc.i (yc.i.ents ++ [(s, yc.i.next + 1, q1, q2)]) (yc.i.next + 1) st) := by
              unfold Sp.mkT
              rw [hE, if_pos hae, hicd, hq]
              rfl
            have hH : Sp.mkH (Sp.chk R) (pl L) kc b s kind st = (q1, q2) := by unfold Sp.mkH; rw [hE, if_pos hae, hq]
            rw [hE, hT, hH, hae]
            have HAE : Hid (Fo.addErr yc.i.ents yc.i.next s q1 q2 = 0) := hae
            clear hno hse hc0 hst1 hst2 hr hlen hk hne hle hme hq hxc hgc hkc hde hdn hfc hyc hE hicd hr1 hkeep hx1 hae hT hH hM
            rcases hkk with h1 | ⟨h1, h2⟩
            all_goals
              go_enter Tryz.func18, Tryz.ntmps18
              go_wp2_with fail
              rw [← hW]
              refine (rasked_any HRR.out _ L st _ HV.out HOK.out).mono ?_
              rintro e w1 ⟨rfl, hb1⟩
              rw [HSE.out]
              have HB1 : Hid (Below w.heap.size w w1) := HB0.out.trans (hb1.mono HB0.out.size)
              have HA1 : Hid (w1.heap[w.heap.size]? = some (BH kc b) ∧ w1.heap[w.heap.size + 1]? = some (BH 0 0)) := ⟨(hb1.block _ (by omega)).trans HA0.out.1, (hb1.block _ hws0).trans HA0.out.2⟩
              have hws1 : w.heap.size + 1 < w1.heap.size := (Array.getElem?_eq_some_iff.1 HA1.out.2).1
              clear hb1
              clear hW
              obtain ⟨⟨z0, z1⟩, zf⟩ := two_of HA1.out.2
              obtain ⟨⟨a0, a1⟩, _⟩ := two_of HA1.out.1
              go_wp2_with fail
              clear a0 a1 z0 z1 zf
              refine (rfree_any _ L kc b s _ (HVW.out _ HB1.out) HOK.out HSM.out HRT.out).mono ?_
              rintro e w2 ⟨rfl, hb2⟩
              rw [HNE.out]
              have HB2 : Hid (Below w.heap.size w w2) := HB1.out.trans (hb2.mono HB1.out.size)
              have HA2 : Hid (w2.heap[w.heap.size]? = some (BH kc b) ∧ w2.heap[w.heap.size + 1]? = some (BH 0 0)) := ⟨(hb2.block _ (by omega)).trans HA1.out.1, (hb2.block _ hws1).trans HA1.out.2⟩
              have hws2 : w.heap.size + 1 < w2.heap.size := (Array.getElem?_eq_some_iff.1 HA2.out.2).1
              clear hb2
              obtain ⟨⟨z0, z1⟩, zf⟩ := two_of HA2.out.2
              go_wp2_with fail
              clear z0 z1 zf
              refine (rmake_any _ L kind st _ (HVW.out _ HB2.out)).mono ?_
              rintro e w3 ⟨u3, L3, rfl, ht3, hp3, hb3⟩
              rw [HMH.out.1, HMH.out.2]
              have HB3 : Hid (Below w.heap.size w w3) := HB2.out.trans (hb3.mono HB2.out.size)
              have HA3 : Hid (w3.heap[w.heap.size]? = some (BH kc b) ∧ w3.heap[w.heap.size + 1]? = some (BH 0 0)) := ⟨(hb3.block _ (by omega)).trans HA2.out.1, (hb3.block _ hws2).trans HA2.out.2⟩
              have hws3 : w.heap.size + 1 < w3.heap.size := (Array.getElem?_eq_some_iff.1 HA3.out.2).1
              clear hb3
              obtain ⟨W3, hW3⟩ : ∃ W3, W3 = w3.alloc (BH q1 q2) := ⟨_, rfl⟩
              have HB4 : Hid (Below w.heap.size w W3) := by show Below w.heap.size w W3; rw [hW3]; exact HB3.out.alloc HB3.out.size _
              have HA4 : Hid (W3.heap[w.heap.size]? = some (BH kc b) ∧ W3.heap[w.heap.size + 1]? = some (BH 0 0) ∧ W3.heap[w3.heap.size]? = some (BH q1 q2)) := by
                rw [hW3]
                exact ⟨(Below.heap_alloc _ _ _ (by omega)).trans HA3.out.1, (Below.heap_alloc _ _ _ hws3).trans HA3.out.2, heap_alloc_new _ _⟩
              have hws4 : w.heap.size + 1 < W3.heap.size := (Array.getElem?_eq_some_iff.1 HA4.out.2.1).1
              have hwh4 : w3.heap.size < W3.heap.size := (Array.getElem?_eq_some_iff.1 HA4.out.2.2).1
              have HT4 : Hid (TabW W3 u3 L3) := by show TabW W3 u3 L3; rw [hW3]; exact ht3.up ((Below.refl _ _).alloc (Nat.le_refl _) _)
              have HP3 : Hid (pl L3 = makeTab (pl L) kind st) := hp3
              obtain ⟨ao3, cap3, rfl, -, -⟩ := ht3.open
              clear ht3 hp3
              obtain ⟨⟨z0, z1⟩, zf⟩ := two_of HA3.out.2
              obtain ⟨⟨a0, a1⟩, _⟩ := two_of HA3.out.1
              have hwa3 : w.heap.size < w3.heap.size := by omega
              go_wp2_with fail
              rw [← hW3]
              clear a0 a1 z0 z1 zf hW3
              obtain ⟨y3, hy3, hyi⟩ := Sp.pl_some (L := L3) (k := kc) (x := yc.i) (by rw [HP3.out]; exact HYC.out.2.1)
              have hl3 : L3.length ≤ 24 := by have := HYC.out.2.2; rw [← HP3.out, List.length_map] at this; exact this
              refine (rmore_any _ L3 kc q1 q2 st s y3 _ HT4.out hy3 (by rw [hyi]; exact HYC.out.1) HSM.out (by rw [hyi]; exact HAE.out) (by omega) (by rw [hyi]; omega)).mono ?_
              rintro e w5 ⟨g5, cap5, L5, rfl, hcp, hp5, hb5⟩
              rw [hyi, HP3.out] at hp5
              have HB5 : Hid (Below w.heap.size w w5) := HB4.out.trans (hb5.mono HB4.out.size)
              have HA5 : Hid (w5.heap[w.heap.size + 1]? = some (BH 0 0) ∧ w5.heap[w3.heap.size]? = some (BH q1 q2)) := ⟨(hb5.block _ hws4).trans HA4.out.2.1, (hb5.block _ hwh4).trans HA4.out.2.2⟩
              obtain ⟨⟨z0, z1⟩, zf⟩ := two_of HA5.out.1
              obtain ⟨⟨e0, e1⟩, _⟩ := two_of HA5.out.2
              have hgy : w3.heap.size ≠ w.heap.size + 1 := by omega
              have HC5 : Hid (TabAt (fun b => b ≠ w.heap.size + 1) w5 (.slice (some ⟨g5, 0, none⟩) L3.length cap5) L5) := hcp.off hws4 HA5.out.1
              have HP5 : Hid (pl L5 = (makeTab (pl L) kind st).set kc (Sp.filled yc.i (yc.i.ents ++ [(s, yc.i.next + 1, q1, q2)]) (yc.i.next + 1) st)) := hp5
              clear hb5 hcp hp5 hy3 hyi
              go_wp2_with fail
              go_region
              all_goals
                go_wp2
                have ht := tab_set (tab_set HC5.out 0 (.int .i64 q1)) 1 (.int .i64 q2)
                have hbe := HB5.out
                have hbl : Below w.heap.size w ((w5.setCell ⟨w.heap.size + 1, 0, none⟩ (.int .i64 q1)).setCell ⟨w.heap.size + 1, 1, none⟩ (.int .i64 q2)) := by
                  (repeat (with_reducible refine Below.setCell ?_ (by simp) _)); exact hbe
                (try simp only [Exit.inBlock, Exit.then])
                refine bodyPost_ret (v := .tuple #[.slice (some ⟨g5, 0, none⟩) L3.length cap5, .agg #[.int .i64 q1, .int .i64 q2], .int .i64 0]) ?_ rfl ?_
                · rw [results_tct rfl]
                  go_simp
                · first
                    | exact ⟨_, rfl, L5, tab_wide (tab_drew ht), HP5.out, bel_drew hbl⟩
                    | exact ⟨_, L5, rfl, tab_wide (tab_drew ht), HP5.out, bel_drew hbl⟩
          · have hT : Sp.mkT (Sp.chk R) (pl L) kc b s kind st = [] := by unfold Sp.mkT; rw [hE, if_neg hae]
            have hH : Sp.mkH (Sp.chk R) (pl L) kc b s kind st = (0, 0) := by unfold Sp.mkH; rw [hE, if_neg hae]
            obtain ⟨ae, hae2⟩ : ∃ ae, Fo.addErr yc.i.ents yc.i.next s q1 q2 = ae := ⟨_, rfl⟩
            have HAE : Hid (Fo.addErr yc.i.ents yc.i.next s q1 q2 = ae ∧ ¬ Fo.addErr yc.i.ents yc.i.next s q1 q2 = 0) := ⟨hae2, hae⟩
            rw [hE, hT, hH, hae2]
            rw [hae2] at hae
            have hz' : (ae != 0) = true := by simpa using hae
            clear hno hse hc0 hst1 hst2 hr hlen hk hne hle hme hq hxc hgc hkc hde hdn hfc hyc hE hicd hr1 hkeep hx1 hae hT hH hM hae2
            rcases hkk with h1 | ⟨h1, h2⟩
            all_goals
              go_enter Tryz.func18, Tryz.ntmps18
              go_wp2_with fail
              rw [← hW]
              refine (rasked_any HRR.out _ L st _ HV.out HOK.out).mono ?_
              rintro e w1 ⟨rfl, hb1⟩
              rw [HSE.out]
              have HB1 : Hid (Below w.heap.size w w1) := HB0.out.trans (hb1.mono HB0.out.size)
              have HA1 : Hid (w1.heap[w.heap.size]? = some (BH kc b) ∧ w1.heap[w.heap.size + 1]? = some (BH 0 0)) := ⟨(hb1.block _ (by omega)).trans HA0.out.1, (hb1.block _ hws0).trans HA0.out.2⟩
              have hws1 : w.heap.size + 1 < w1.heap.size := (Array.getElem?_eq_some_iff.1 HA1.out.2).1
              clear hb1
              clear hW
              obtain ⟨⟨z0, z1⟩, zf⟩ := two_of HA1.out.2
              obtain ⟨⟨a0, a1⟩, _⟩ := two_of HA1.out.1
              go_wp2_with fail
              clear a0 a1 z0 z1 zf
              refine (rfree_any _ L kc b s _ (HVW.out _ HB1.out) HOK.out HSM.out HRT.out).mono ?_
              rintro e w2 ⟨rfl, hb2⟩
              rw [HNE.out]
              have HB2 : Hid (Below w.heap.size w w2) := HB1.out.trans (hb2.mono HB1.out.size)
              have HA2 : Hid (w2.heap[w.heap.size]? = some (BH kc b) ∧ w2.heap[w.heap.size + 1]? = some (BH 0 0)) := ⟨(hb2.block _ (by omega)).trans HA1.out.1, (hb2.block _ hws1).trans HA1.out.2⟩
              have hws2 : w.heap.size + 1 < w2.heap.size := (Array.getElem?_eq_some_iff.1 HA2.out.2).1
              clear hb2
              obtain ⟨⟨z0, z1⟩, zf⟩ := two_of HA2.out.2
              go_wp2_with fail
              clear z0 z1 zf
              refine (rmake_any _ L kind st _ (HVW.out _ HB2.out)).mono ?_
              rintro e w3 ⟨u3, L3, rfl, ht3, hp3, hb3⟩
              rw [HMH.out.1, HMH.out.2]
              have HB3 : Hid (Below w.heap.size w w3) := HB2.out.trans (hb3.mono HB2.out.size)
              have HA3 : Hid (w3.heap[w.heap.size]? = some (BH kc b) ∧ w3.heap[w.heap.size + 1]? = some (BH 0 0)) := ⟨(hb3.block _ (by omega)).trans HA2.out.1, (hb3.block _ hws2).trans HA2.out.2⟩
              have hws3 : w.heap.size + 1 < w3.heap.size := (Array.getElem?_eq_some_iff.1 HA3.out.2).1
              clear hb3
              obtain ⟨W3, hW3⟩ : ∃ W3, W3 = w3.alloc (BH q1 q2) := ⟨_, rfl⟩
              have HB4 : Hid (Below w.heap.size w W3) := by show Below w.heap.size w W3; rw [hW3]; exact HB3.out.alloc HB3.out.size _
              have HA4 : Hid (W3.heap[w.heap.size]? = some (BH kc b) ∧ W3.heap[w.heap.size + 1]? = some (BH 0 0) ∧ W3.heap[w3.heap.size]? = some (BH q1 q2)) := by
                rw [hW3]
                exact ⟨(Below.heap_alloc _ _ _ (by omega)).trans HA3.out.1, (Below.heap_alloc _ _ _ hws3).trans HA3.out.2, heap_alloc_new _ _⟩
              have hws4 : w.heap.size + 1 < W3.heap.size := (Array.getElem?_eq_some_iff.1 HA4.out.2.1).1
              have hwh4 : w3.heap.size < W3.heap.size := (Array.getElem?_eq_some_iff.1 HA4.out.2.2).1
              have HT4 : Hid (TabW W3 u3 L3) := by show TabW W3 u3 L3; rw [hW3]; exact ht3.up ((Below.refl _ _).alloc (Nat.le_refl _) _)
              have HP3 : Hid (pl L3 = makeTab (pl L) kind st) := hp3
              obtain ⟨ao3, cap3, rfl, -, -⟩ := ht3.open
              clear ht3 hp3
              obtain ⟨⟨z0, z1⟩, zf⟩ := two_of HA3.out.2
              obtain ⟨⟨a0, a1⟩, _⟩ := two_of HA3.out.1
              have hwa3 : w.heap.size < w3.heap.size := by omega
              go_wp2_with fail
              rw [← hW3]
              clear a0 a1 z0 z1 zf hW3
              obtain ⟨y3, hy3, hyi⟩ := Sp.pl_some (L := L3) (k := kc) (x := yc.i) (by rw [HP3.out]; exact HYC.out.2.1)
              refine (rmore_no _ L3 kc q1 q2 st s y3 _ HT4.out hy3 (by rw [hyi]; exact HYC.out.1) HSM.out (by rw [hyi]; exact HAE.out.2)).mono ?_
              rintro e w5 ⟨rfl, hb5⟩
              rw [hyi, HAE.out.1]
              have HB5 : Hid (Below w.heap.size w w5) := HB4.out.trans (hb5.mono HB4.out.size)
              have HA5 : Hid (w5.heap[w.heap.size + 1]? = some (BH 0 0)) := (hb5.block _ hws4).trans HA4.out.2.1
              obtain ⟨⟨z0, z1⟩, zf⟩ := two_of HA5.out
              clear hb5 hy3 hyi
              go_wp2
              have hbe := HB5.out
              (try simp only [Exit.inBlock, Exit.then])
              refine bodyPost_ret (v := .tuple #[.slice none 0 0, .agg #[.int .i64 0, .int .i64 0], .int .i64 ae]) ?_ rfl ?_
              · rw [results_tct rfl]
                go_simp
              · first
                  | exact ⟨_, rfl, [], tab_nil _ _, rfl, (by repeat (first | exact hbe | refine Below.setCell ?_ (by simp) _ | refine Below.alloc ?_ (by simp; exact hbe.size) _))⟩
                  | exact ⟨_, [], rfl, tab_nil _ _, rfl, (by repeat (first | exact hbe | refine Below.setCell ?_ (by simp) _ | refine Below.alloc ?_ (by simp; exact hbe.size) _))⟩
        · have hE : Sp.mkE (Sp.chk R) (pl L) kc b s kind st = me := by unfold Sp.mkE; rw [if_pos hle, if_neg (by rw [hme]; exact hm0), hme]
          have hT : Sp.mkT (Sp.chk R) (pl L) kc b s kind st = [] := by unfold Sp.mkT; rw [hE, if_neg hm0]
          have hH : Sp.mkH (Sp.chk R) (pl L) kc b s kind st = (0, 0) := by unfold Sp.mkH; rw [hE, if_neg hm0]
          rw [hE, hT, hH]
          have hz' : (me != 0) = true := by simpa using hm0
          clear hno hse hc0 hst1 hst2 hr hlen hk hne hle hme hq hxc hgc hkc hde hdn hfc hyc hE hT hH hM hm0
          rcases hkk with h1 | ⟨h1, h2⟩
          all_goals
            go_enter Tryz.func18, Tryz.ntmps18
            go_wp2_with fail
            rw [← hW]
            refine (rasked_any HRR.out _ L st _ HV.out HOK.out).mono ?_
            rintro e w1 ⟨rfl, hb1⟩
            rw [HSE.out]
            have HB1 : Hid (Below w.heap.size w w1) := HB0.out.trans (hb1.mono HB0.out.size)
            have HA1 : Hid (w1.heap[w.heap.size]? = some (BH kc b) ∧ w1.heap[w.heap.size + 1]? = some (BH 0 0)) := ⟨(hb1.block _ (by omega)).trans HA0.out.1, (hb1.block _ hws0).trans HA0.out.2⟩
            have hws1 : w.heap.size + 1 < w1.heap.size := (Array.getElem?_eq_some_iff.1 HA1.out.2).1
            clear hb1
            clear hW
            obtain ⟨⟨z0, z1⟩, zf⟩ := two_of HA1.out.2
            obtain ⟨⟨a0, a1⟩, _⟩ := two_of HA1.out.1
            go_wp2_with fail
            clear a0 a1 z0 z1 zf
            refine (rfree_any _ L kc b s _ (HVW.out _ HB1.out) HOK.out HSM.out HRT.out).mono ?_
            rintro e w2 ⟨rfl, hb2⟩
            rw [HNE.out]
            have HB2 : Hid (Below w.heap.size w w2) := HB1.out.trans (hb2.mono HB1.out.size)
            have HA2 : Hid (w2.heap[w.heap.size]? = some (BH kc b) ∧ w2.heap[w.heap.size + 1]? = some (BH 0 0)) := ⟨(hb2.block _ (by omega)).trans HA1.out.1, (hb2.block _ hws1).trans HA1.out.2⟩
            have hws2 : w.heap.size + 1 < w2.heap.size := (Array.getElem?_eq_some_iff.1 HA2.out.2).1
            clear hb2
            obtain ⟨⟨z0, z1⟩, zf⟩ := two_of HA2.out.2
            go_wp2_with fail
            clear z0 z1 zf
            refine (rmake_any _ L kind st _ (HVW.out _ HB2.out)).mono ?_
            rintro e w3 ⟨u3, L3, rfl, ht3, hp3, hb3⟩
            rw [HMH.out.1, HMH.out.2]
            have HB3 : Hid (Below w.heap.size w w3) := HB2.out.trans (hb3.mono HB2.out.size)
            have HA3 : Hid (w3.heap[w.heap.size]? = some (BH kc b) ∧ w3.heap[w.heap.size + 1]? = some (BH 0 0)) := ⟨(hb3.block _ (by omega)).trans HA2.out.1, (hb3.block _ hws2).trans HA2.out.2⟩
            have hws3 : w.heap.size + 1 < w3.heap.size := (Array.getElem?_eq_some_iff.1 HA3.out.2).1
            clear hb3
            obtain ⟨W3, hW3⟩ : ∃ W3, W3 = w3.alloc (BH q1 q2) := ⟨_, rfl⟩
            have HB4 : Hid (Below w.heap.size w W3) := by show Below w.heap.size w W3; rw [hW3]; exact HB3.out.alloc HB3.out.size _
            have HA4 : Hid (W3.heap[w.heap.size]? = some (BH kc b) ∧ W3.heap[w.heap.size + 1]? = some (BH 0 0) ∧ W3.heap[w3.heap.size]? = some (BH q1 q2)) := by
              rw [hW3]
              exact ⟨(Below.heap_alloc _ _ _ (by omega)).trans HA3.out.1, (Below.heap_alloc _ _ _ hws3).trans HA3.out.2, heap_alloc_new _ _⟩
            have hws4 : w.heap.size + 1 < W3.heap.size := (Array.getElem?_eq_some_iff.1 HA4.out.2.1).1
            have hwh4 : w3.heap.size < W3.heap.size := (Array.getElem?_eq_some_iff.1 HA4.out.2.2).1
            have HT4 : Hid (TabW W3 u3 L3) := by show TabW W3 u3 L3; rw [hW3]; exact ht3.up ((Below.refl _ _).alloc (Nat.le_refl _) _)
            have HP3 : Hid (pl L3 = makeTab (pl L) kind st) := hp3
            obtain ⟨ao3, cap3, rfl, -, -⟩ := ht3.open
            clear ht3 hp3
            obtain ⟨⟨z0, z1⟩, zf⟩ := two_of HA3.out.2
            go_wp2
            have hbe := HB3.out
            (try simp only [Exit.inBlock, Exit.then])
            refine bodyPost_ret (v := .tuple #[.slice none 0 0, .agg #[.int .i64 0, .int .i64 0], .int .i64 me]) ?_ rfl ?_
            · rw [results_tct rfl]
              go_simp
            · first
                | exact ⟨_, rfl, [], tab_nil _ _, rfl, (by repeat (first | exact hbe | refine Below.setCell ?_ (by simp) _ | refine Below.alloc ?_ (by simp; exact hbe.size) _))⟩
                | exact ⟨_, [], rfl, tab_nil _ _, rfl, (by repeat (first | exact hbe | refine Below.setCell ?_ (by simp) _ | refine Below.alloc ?_ (by simp; exact hbe.size) _))⟩
      · obtain ⟨hE, hT, hH⟩ := hno ne hle hn0
        rw [hE, hT, hH]
        have hz' : (ne != 0) = true := by simpa using hn0
        clear hno hse hc0 hst1 hst2 hr hlen hk hne hle hme hq hE hT hH hM hn0
        rcases hkk with h1 | ⟨h1, h2⟩
        all_goals
          go_enter Tryz.func18, Tryz.ntmps18
          go_wp2_with fail
          rw [← hW]
          refine (rasked_any HRR.out _ L st _ HV.out HOK.out).mono ?_
          rintro e w1 ⟨rfl, hb1⟩
          rw [HSE.out]
          have HB1 : Hid (Below w.heap.size w w1) := HB0.out.trans (hb1.mono HB0.out.size)
          have HA1 : Hid (w1.heap[w.heap.size]? = some (BH a b) ∧ w1.heap[w.heap.size + 1]? = some (BH 0 0)) := ⟨(hb1.block _ (by omega)).trans HA0.out.1, (hb1.block _ hws0).trans HA0.out.2⟩
          have hws1 : w.heap.size + 1 < w1.heap.size := (Array.getElem?_eq_some_iff.1 HA1.out.2).1
          clear hb1
          clear hW
          obtain ⟨⟨z0, z1⟩, zf⟩ := two_of HA1.out.2
          obtain ⟨⟨a0, a1⟩, _⟩ := two_of HA1.out.1
          go_wp2_with fail
          clear a0 a1 z0 z1 zf
          refine (rfree_any _ L a b s _ (HVW.out _ HB1.out) HOK.out HSM.out HRT.out).mono ?_
          rintro e w2 ⟨rfl, hb2⟩
          rw [HNE.out]
          have HB2 : Hid (Below w.heap.size w w2) := HB1.out.trans (hb2.mono HB1.out.size)
          have HA2 : Hid (w2.heap[w.heap.size]? = some (BH a b) ∧ w2.heap[w.heap.size + 1]? = some (BH 0 0)) := ⟨(hb2.block _ (by omega)).trans HA1.out.1, (hb2.block _ hws1).trans HA1.out.2⟩
          have hws2 : w.heap.size + 1 < w2.heap.size := (Array.getElem?_eq_some_iff.1 HA2.out.2).1
          clear hb2
          obtain ⟨⟨z0, z1⟩, zf⟩ := two_of HA2.out.2
          go_wp2
          have hbe := HB2.out
          (try simp only [Exit.inBlock, Exit.then])
          refine bodyPost_ret (v := .tuple #[.slice none 0 0, .agg #[.int .i64 0, .int .i64 0], .int .i64 ne]) ?_ rfl ?_
          · rw [results_tct rfl]
            go_simp
          · first
              | exact ⟨_, rfl, [], tab_nil _ _, rfl, (by repeat (first | exact hbe | refine Below.setCell ?_ (by simp) _ | refine Below.alloc ?_ (by simp; exact hbe.size) _))⟩
              | exact ⟨_, [], rfl, tab_nil _ _, rfl, (by repeat (first | exact hbe | refine Below.setCell ?_ (by simp) _ | refine Below.alloc ?_ (by simp; exact hbe.size) _))⟩
    · obtain ⟨hE, hT, hH⟩ := hno 1 (by unfold Sp.makeErr; rw [if_pos hse, if_neg hk]) (by decide)
      rw [hE, hT, hH]
      have h1 : (kind != 1) = true := by simp; omega
      have h2 : (kind != 2) = true := by simp; omega
      clear hno hse hc0 hst1 hst2 hr hlen hk hE hT hH hM
      go_enter Tryz.func18, Tryz.ntmps18
      go_wp2_with fail
      rw [← hW]
      refine (rasked_any HRR.out _ L st _ HV.out HOK.out).mono ?_
      rintro e w1 ⟨rfl, hb1⟩
      rw [HSE.out]
      have HB1 : Hid (Below w.heap.size w w1) := HB0.out.trans (hb1.mono HB0.out.size)
      have HA1 : Hid (w1.heap[w.heap.size]? = some (BH a b) ∧ w1.heap[w.heap.size + 1]? = some (BH 0 0)) := ⟨(hb1.block _ (by omega)).trans HA0.out.1, (hb1.block _ hws0).trans HA0.out.2⟩
      have hws1 : w.heap.size + 1 < w1.heap.size := (Array.getElem?_eq_some_iff.1 HA1.out.2).1
      clear hb1
      clear hW
      obtain ⟨⟨z0, z1⟩, zf⟩ := two_of HA1.out.2
      go_wp2
      have hbe := HB1.out
      (try simp only [Exit.inBlock, Exit.then])
      refine bodyPost_ret (v := .tuple #[.slice none 0 0, .agg #[.int .i64 0, .int .i64 0], .int .i64 1]) ?_ rfl ?_
      · rw [results_tct rfl]
        go_simp
      · first
          | exact ⟨_, rfl, [], tab_nil _ _, rfl, (by repeat (first | exact hbe | refine Below.setCell ?_ (by simp) _ | refine Below.alloc ?_ (by simp; exact hbe.size) _))⟩
          | exact ⟨_, [], rfl, tab_nil _ _, rfl, (by repeat (first | exact hbe | refine Below.setCell ?_ (by simp) _ | refine Below.alloc ?_ (by simp; exact hbe.size) _))⟩
  · obtain ⟨se, hse'⟩ : ∃ se, Sp.stErr (Sp.chk R) (pl L) st = se := ⟨_, rfl⟩
    have HSE : Hid (Sp.stErr (Sp.chk R) (pl L) st = se) := hse'
    obtain ⟨hE, hT, hH⟩ := hno se (by unfold Sp.makeErr; rw [if_neg hse, hse']) (by rw [← hse']; exact hse)
    rw [hE, hT, hH]
    rw [hse'] at hse
    have hz' : (se != 0) = true := by simpa using hse
    clear hno hE hT hH hM hse hse'
    go_enter Tryz.func18, Tryz.ntmps18
    go_wp2_with fail
    rw [← hW]
    refine (rasked_any HRR.out _ L st _ HV.out HOK.out).mono ?_
    rintro e w1 ⟨rfl, hb1⟩
    rw [HSE.out]
    have HB1 : Hid (Below w.heap.size w w1) := HB0.out.trans (hb1.mono HB0.out.size)
    have HA1 : Hid (w1.heap[w.heap.size]? = some (BH a b) ∧ w1.heap[w.heap.size + 1]? = some (BH 0 0)) := ⟨(hb1.block _ (by omega)).trans HA0.out.1, (hb1.block _ hws0).trans HA0.out.2⟩
    have hws1 : w.heap.size + 1 < w1.heap.size := (Array.getElem?_eq_some_iff.1 HA1.out.2).1
    clear hb1
    clear hW
    obtain ⟨⟨z0, z1⟩, zf⟩ := two_of HA1.out.2
    go_wp2
    have hbe := HB1.out
    (try simp only [Exit.inBlock, Exit.then])
    refine bodyPost_ret (v := .tuple #[.slice none 0 0, .agg #[.int .i64 0, .int .i64 0], .int .i64 se]) ?_ rfl ?_
    · rw [results_tct rfl]
      go_simp
    · first
        | exact ⟨_, rfl, [], tab_nil _ _, rfl, (by repeat (first | exact hbe | refine Below.setCell ?_ (by simp) _ | refine Below.alloc ?_ (by simp; exact hbe.size) _))⟩
        | exact ⟨_, [], rfl, tab_nil _ _, rfl, (by repeat (first | exact hbe | refine Below.setCell ?_ (by simp) _ | refine Below.alloc ?_ (by simp; exact hbe.size) _))⟩
end Go.Proofs.YtacghcoikekfeaaGreat
/- Sp20 -/
namespace Go.Proofs.YtacghcoikekfeaaGreat
open Go.ChangeShapes Go.WideShapes Go.ChangeAt Go.RowKit Go.Deep It
set_option maxRecDepth 100000
/-- What inside answers of a space and an inode's number: proved elsewhere. -/
def InsSaid (C : List Ino → Int) (I : List Ino → Int → Int → Bool) : Prop := ∀ (S : Nat → Prop) (v : Value) (L : List Rw) (no to : Int) (w : World), TabAt S w v L → Sp.okN L → C (pl L) = 0 → (∃ (k : Nat) (x : Ino), no = k ∧ (pl L)[k]? = some x ∧ x.kind ≠ 0) →
  Calls Tryz.prog 96 #[v, .int .i64 no, .int .i64 to] w fun e w' => e = .returned (.bool (I (pl L) no to)) ∧ Below w.heap.size w w'
noncomputable def Sp.moveErr (I : List Ino → Int → Int → Bool) (L : List Ino) (no a b : Int) (s : ByteArray) : Int := if (nameErr L a b s = 0 ∨ nameErr L a b s = 403) ∧ I L no a = true then 410 else nameErr L a b s
set_option maxHeartbeats 2000000 in
theorem refuseMove_any {C : List Ino → Int} {I : List Ino → Int → Int → Bool} (hI : InsSaid C I) {S : Nat → Prop} (v : Value) (L : List Rw) (no g a b : Int) (s : ByteArray) (w : World) (hv : TabAt S w v L) (hok : Sp.okN L) (hs : s.size ≤ maxLen) (hc : C (pl L) = 0) (hk : ∃ (k : Nat) (x : Ino), no = k ∧ (pl L)[k]? = some x ∧ x.kind ≠ 0) :
    Calls Tryz.prog 61 #[v, .agg #[.int .i64 no, .int .i64 g], .agg #[.int .i64 a, .int .i64 b], .string s] w fun e w' => e = .returned (.int .i64 (Sp.moveErr I (pl L) no a b s)) ∧ Below w.heap.size w w' := by
  obtain ⟨W, hW⟩ : ∃ W, W = (w.alloc (BH no g)).alloc (BH a b) := ⟨_, rfl⟩
  have HB0 : Hid (Below w.heap.size w W) := by show Below w.heap.size w W; rw [hW]; exact ((Below.refl _ w).alloc (Nat.le_refl _) _).alloc (by simp) _
  have HA0 : Hid (W.heap[w.heap.size]? = some (BH no g) ∧ W.heap[w.heap.size + 1]? = some (BH a b)) := by
    rw [hW]
    refine ⟨(Below.heap_alloc _ _ _ (by simp)).trans (heap_alloc_new _ _), ?_⟩
    have := heap_alloc_new (w.alloc (BH no g)) (BH a b)
    rwa [show (w.alloc (BH no g)).heap.size = w.heap.size + 1 by simp] at this
  have hws : w.heap.size + 1 < W.heap.size := by rw [hW]; simp
  have HV : Hid (TabAt S W v L) := hv.up HB0.out
  have HIN0 : Hid (∀ V, Below w.heap.size w V → Calls Tryz.prog 96 #[v, .int .i64 no, .int .i64 a] V fun e w' => e = .returned (.bool (I (pl L) no a)) ∧ Below V.heap.size V w') := fun V h => hI S v L no a V (hv.up h) hok hc hk
  obtain ⟨ao, cap, rfl, _, _⟩ := hv.open
  have HOK : Hid (Sp.okN L) := hok
  have HSM : Hid (s.size ≤ maxLen) := hs
  clear hv hok hs hI hc hk
  obtain ⟨ne, hne⟩ : ∃ ne, Sp.nameErr (pl L) a b s = ne := ⟨_, rfl⟩
  have HNE : Hid (Sp.nameErr (pl L) a b s = ne) := hne
  obtain ⟨i, hi⟩ : ∃ i, I (pl L) no a = i := ⟨_, rfl⟩
  have HIN : Hid (∀ V, Below w.heap.size w V → Calls Tryz.prog 96 #[.slice ao L.length cap, .int .i64 no, .int .i64 a] V fun e w' => e = .returned (.bool i) ∧ Below V.heap.size V w') := by rw [← hi]; exact HIN0.out
  clear HIN0
  by_cases h1 : ne = 0 ∨ ne = 403
  · have hE : Sp.moveErr I (pl L) no a b s = if i = true then 410 else ne := by
      unfold Sp.moveErr
      rw [hne, hi]
      by_cases h : i = true
      · rw [if_pos ⟨h1, h⟩, if_pos h]
      · rw [if_neg (fun x => h x.2), if_neg h]
    rw [hE]
    clear hE hne hi
    rcases h1 with rfl | rfl <;> cases i
    all_goals
      go_enter Tryz.func61, Tryz.ntmps61
      obtain ⟨⟨a0, a1⟩, _⟩ := two_of HA0.out.1
      obtain ⟨⟨g0, g1⟩, _⟩ := two_of HA0.out.2
      go_wp2_with fail
      rw [← hW]
      refine (refuseName_any _ L a b s _ HV.out HOK.out HSM.out).mono ?_
      rintro e w1 ⟨rfl, hb1⟩
      rw [HNE.out]
      have HB1 : Hid (Below w.heap.size w w1) := HB0.out.trans (hb1.mono HB0.out.size)
      have HA1 : Hid (w1.heap[w.heap.size]? = some (BH no g) ∧ w1.heap[w.heap.size + 1]? = some (BH a b)) := ⟨(hb1.block _ (by omega)).trans HA0.out.1, (hb1.block _ (by omega)).trans HA0.out.2⟩
      clear hb1 hW a0 a1 g0 g1
      obtain ⟨⟨a0, a1⟩, _⟩ := two_of HA1.out.1
      obtain ⟨⟨g0, g1⟩, _⟩ := two_of HA1.out.2
      go_wp2_with fail
      refine (HIN.out _ HB1.out).mono ?_
      rintro e w2 ⟨rfl, hb2⟩
      have HB2 : Hid (Below w.heap.size w w2) := HB1.out.trans (hb2.mono HB1.out.size)
      clear hb2 a0 a1 g0 g1
      go_wp2
      go_ret
      exact ⟨rfl, HB2.out⟩
  · have hE : Sp.moveErr I (pl L) no a b s = ne := by
      unfold Sp.moveErr
      rw [hne, if_neg (fun x => h1 x.1)]
    rw [hE]
    have z1 : (ne == 0) = false := beq_eq_false_iff_ne.2 fun h => h1 (.inl h)
    have z2 : (ne == 403) = false := beq_eq_false_iff_ne.2 fun h => h1 (.inr h)
    clear hE hne hi h1
    go_enter Tryz.func61, Tryz.ntmps61
    obtain ⟨⟨a0, a1⟩, _⟩ := two_of HA0.out.1
    obtain ⟨⟨g0, g1⟩, _⟩ := two_of HA0.out.2
    go_wp2_with fail
    rw [← hW]
    refine (refuseName_any _ L a b s _ HV.out HOK.out HSM.out).mono ?_
    rintro e w1 ⟨rfl, hb1⟩
    rw [HNE.out]
    have HB1 : Hid (Below w.heap.size w w1) := HB0.out.trans (hb1.mono HB0.out.size)
    clear hb1 hW a0 a1 g0 g1
    go_wp2
    go_ret
    exact ⟨rfl, HB1.out⟩
end Go.Proofs.YtacghcoikekfeaaGreat
/- Sp21 -/
namespace Go.Proofs.YtacghcoikekfeaaGreat
open Go.ChangeShapes Go.WideShapes Go.ChangeAt Go.RowKit Go.Deep It
set_option maxRecDepth 100000
namespace Sp
theorem fold_le {st : Int} (L : List Ino) : ∀ m : Int, m ≤ st → (∀ x ∈ L, x.stamp ≤ st) → L.foldl (fun m x => max m x.stamp) m ≤ st := by
  induction L with
  | nil => intro m hm _; exact hm
  | cons x L ih => exact fun m hm h => ih (max m x.stamp) (by have := h x (by simp); omega) (fun y hy => h y (by simp [hy]))
theorem top_le {st : Int} {L : List Ino} (h0 : 0 ≤ st) (h : ∀ x ∈ L, x.stamp ≤ st) : top L ≤ st := fold_le L 0 h0 h
theorem moveErr_zero {I : List Ino → Int → Int → Bool} {L : List Ino} {no a b : Int} {s : ByteArray} (h : moveErr I L no a b s = 0) : dirErr L a b = 0 := by
  unfold moveErr at h
  split at h
  · exact absurd h (by decide)
  · exact (nameErr_zero h).1
/-- The folder that a name moves to, in the table that has a name less. -/
noncomputable def midI (L : List Ino) (a b : Int) (s : ByteArray) (st c : Int) : Ino := ((lessDir L a b s st)[c.toNat]?).getD zeroI
/-- What Rename tells. -/
noncomputable def rnE (C : List Ino → Int) (I : List Ino → Int → Int → Bool) (L : List Ino) (a b : Int) (s : ByteArray) (c d : Int) (s2 : ByteArray) (st : Int) : Int :=
  if toErr C L st a b s = 0 then (if moveErr I L (toH C L st a b s).1 c d s2 = 0 then Fo.addErr (midI L a b s st c).ents (midI L a b s st c).next s2 (toH C L st a b s).1 (toH C L st a b s).2 else moveErr I L (toH C L st a b s).1 c d s2) else toErr C L st a b s
noncomputable def rnT (C : List Ino → Int) (I : List Ino → Int → Int → Bool) (L : List Ino) (a b : Int) (s : ByteArray) (c d : Int) (s2 : ByteArray) (st : Int) : List Ino :=
  if rnE C I L a b s c d s2 st = 0 then (lessDir L a b s st).set c.toNat (filled (midI L a b s st c) ((midI L a b s st c).ents ++ [(s2, (midI L a b s st c).next + 1, (toH C L st a b s).1, (toH C L st a b s).2)]) ((midI L a b s st c).next + 1) st) else []
/-- What stands of the folder that a name moves to, between the two changes. -/
theorem mid {L : List Ino} {kc kd : Nat} {xc xd : Ino} {es : List Ent} {st : Int} (hxc : L[kc]? = some xc) (hkc : xc.kind = 2) (hlc : es.length ≤ 1536) (hsub : ∀ e ∈ es, e ∈ xc.ents) (hst : top L ≤ st ∧ st ≤ 1099511627776)
    (hxd : L[kd]? = some xd) (hkd : xd.kind = 2) (hld : xd.ents.length ≤ 1536) (hr1 : It.right (L.set kc (filled xc es xc.next st)) = true) :
    ∃ x1 : Ino, (L.set kc (filled xc es xc.next st))[kd]? = some x1 ∧ x1.gen = xd.gen ∧ x1.kind = 2 ∧ x1.ents.length ≤ 1536 ∧ (∀ e ∈ x1.ents, e ∈ xd.ents) ∧ findErr (L.set kc (filled xc es xc.next st)) kd xd.gen = 0 ∧
      ∀ (e : Ent) (nx : Int), At.growErr x1.kind x1.links x1.size x1.stamp (x1.ents.length + 1) st = 0 ∧ putTab (L.set kc (filled xc es xc.next st)) kd xd.gen (filled x1 (x1.ents ++ [e]) nx st) = (L.set kc (filled xc es xc.next st)).set kd (filled x1 (x1.ents ++ [e]) nx st) := by
  have hst0 : 0 ≤ st := Int.le_trans (top_nonneg _) hst.1
  have htop : top (L.set kc (filled xc es xc.next st)) ≤ st := by
    refine top_le hst0 fun x hx => ?_
    rcases List.mem_or_eq_of_mem_set hx with h | rfl
    · exact Int.le_trans (top_ge h) hst.1
    · exact Int.le_refl _
  have key : ∃ x1 : Ino, (L.set kc (filled xc es xc.next st))[kd]? = some x1 ∧ x1.gen = xd.gen ∧ x1.kind = 2 ∧ x1.ents.length ≤ 1536 ∧ ∀ e ∈ x1.ents, e ∈ xd.ents := by
    by_cases h : kc = kd
    · subst h
      rw [hxc] at hxd
      obtain rfl := Option.some.inj hxd
      refine ⟨filled xc es xc.next st, ?_, rfl, hkc, hlc, hsub⟩
      rw [List.getElem?_set_self (List.getElem?_eq_some_iff.1 hxc).1]
    · exact ⟨xd, by rw [List.getElem?_set_ne h]; exact hxd, rfl, hkd, hld, fun _ h => h⟩
  obtain ⟨x1, hx1, hg1, hk1, hl1, hs1⟩ := key
  have hone := (It.right_iff.1 hr1).2.2 x1 (List.mem_of_getElem? hx1)
  have hf1 : findErr (L.set kc (filled xc es xc.next st)) kd xd.gen = 0 := by
    unfold findErr
    rw [if_pos hr1, if_pos ?_]
    unfold names
    rw [show ((kd : Int)).toNat = kd by omega, hx1]
    simp [hg1, hk1]
  refine ⟨x1, hx1, hg1, hk1, hl1, hs1, hf1, fun e nx => ⟨grow_ok hr1 hx1 (by omega) ⟨htop, hst.2⟩ ⟨by omega, by omega⟩, ?_⟩⟩
  exact (putTab_set (y := filled x1 (x1.ents ++ [e]) nx st) hf1 hx1 hg1 (by show x1.kind ≠ 0; omega) (one_filled hone hk1 ⟨hst0, hst.2⟩ (by simp; omega)) rfl).2
end Sp
end Go.Proofs.YtacghcoikekfeaaGreat
/- Sp22 -/
namespace Go.Proofs.YtacghcoikekfeaaGreat
open Go.ChangeShapes Go.WideShapes Go.ChangeAt Go.RowKit Go.Deep It
set_option maxRecDepth 100000
set_option maxHeartbeats 4000000 in
theorem srename_any {C : List Ino → Int} {I : List Ino → Int → Int → Bool} (hC : ChkSaid C) (hM : Sp.ChkMeans C) (hI : InsSaid C I) {S : Nat → Prop} (v : Value) (L : List Rw) (a b : Int) (s : ByteArray) (c d : Int) (s2 : ByteArray) (st : Int) (w : World) (hv : TabAt S w v L) (hok : Sp.okN L) (hs : s.size ≤ maxLen) (hs2 : s2.size ≤ maxLen) :
    Calls Tryz.prog 26 #[v, .agg #[.int .i64 a, .int .i64 b], .string s, .agg #[.int .i64 c, .int .i64 d], .string s2, .int .i64 st] w fun e w' =>
      ∃ u L', e = .returned (.tuple #[u, .int .i64 (Sp.rnE C I (pl L) a b s c d s2 st)]) ∧ TabAt (fun b => w.heap.size ≤ b) w' u L' ∧ pl L' = Sp.rnT C I (pl L) a b s c d s2 st ∧ Below w.heap.size w w' := by
  obtain ⟨W, hW⟩ : ∃ W, W = (w.alloc (BH a b)).alloc (BH c d) := ⟨_, rfl⟩
  have HB0 : Hid (Below w.heap.size w W) := by show Below w.heap.size w W; rw [hW]; exact ((Below.refl _ w).alloc (Nat.le_refl _) _).alloc (by simp) _
  have HA0 : Hid (W.heap[w.heap.size]? = some (BH a b) ∧ W.heap[w.heap.size + 1]? = some (BH c d)) := by
    rw [hW]
    refine ⟨(Below.heap_alloc _ _ _ (by simp)).trans (heap_alloc_new _ _), ?_⟩
    have := heap_alloc_new (w.alloc (BH a b)) (BH c d)
    rwa [show (w.alloc (BH a b)).heap.size = w.heap.size + 1 by simp] at this
  have hws : w.heap.size + 1 < W.heap.size := by rw [hW]; simp
  have HV : Hid (TabAt S W v L) := hv.up HB0.out
  have HVW : Hid (∀ V, Below w.heap.size w V → TabAt S V v L) := fun V h => hv.up h
  obtain ⟨ao, cap, rfl, _, _⟩ := hv.open
  have HOK : Hid (Sp.okN L) := hok
  have HSM : Hid (s.size ≤ maxLen ∧ s2.size ≤ maxLen) := ⟨hs, hs2⟩
  have HCC : Hid (ChkSaid C ∧ InsSaid C I) := ⟨hC, hI⟩
  obtain ⟨⟨q1, q2⟩, hq⟩ : ∃ q, Sp.toH C (pl L) st a b s = q := ⟨_, rfl⟩
  obtain ⟨te, hte⟩ : ∃ te, Sp.toErr C (pl L) st a b s = te := ⟨_, rfl⟩
  have HTE : Hid (Sp.toH C (pl L) st a b s = (q1, q2) ∧ Sp.toErr C (pl L) st a b s = te) := ⟨hq, hte⟩
  clear hv hok hs hs2 hC hI
  by_cases hz : te = 0
  · subst hz
    have hc0 : C (pl L) = 0 := by
      have h := hte
      unfold Sp.toErr at h
      by_cases hse : Sp.stErr C (pl L) st = 0
      · exact (Sp.stErr_zero hse).1
      · rw [if_neg hse] at h
        exact absurd h hse
    obtain ⟨kc, xc, j, en, kt, xt, rfl, hxc, hgc, hkc, hfc, hff, hpl, hj, hqe, hkt, hkt0, hxt, hgt, hkt2, hlk, hft, hit, hic, hr, hst, hlen⟩ := Sp.to_zero hM hte
    rw [hq] at hqe
    have hq1 : q1 = kt := by rw [← hkt, ← hqe]
    obtain ⟨yc, hyc, rfl⟩ := Sp.pl_some hxc
    have hst0 : 0 ≤ st := Int.le_trans (Sp.top_nonneg _) hst.1
    have HCK : Hid (C (pl L) = 0 ∧ ∃ (k : Nat) (x : Ino), q1 = k ∧ (pl L)[k]? = some x ∧ x.kind ≠ 0) := ⟨hc0, kt, xt, hq1, hxt, hkt2⟩
    obtain ⟨mv, hmv⟩ : ∃ mv, Sp.moveErr I (pl L) q1 c d s2 = mv := ⟨_, rfl⟩
    have HMV : Hid (Sp.moveErr I (pl L) q1 c d s2 = mv) := hmv
    by_cases hm0 : mv = 0
    · subst hm0
      obtain ⟨kd, xd, rfl, hxd, hgd, hkd, -, -, -, -⟩ := Sp.dir_get (Sp.moveErr_zero hmv)
      obtain ⟨yd, hyd, rfl⟩ := Sp.pl_some hxd
      obtain ⟨hp1, hr1⟩ := Sp.less_right (s := s) hr hxc hgc hkc hfc ⟨hst0, hst.2⟩ hlen
      have hlend := (hM _ hc0).2.2.1 yd.i (List.mem_of_getElem? hxd)
      obtain ⟨x1, hx1, hg1, hk1, hl1, hsub, hf1, hgp⟩ := Sp.mid (es := yc.i.ents.eraseIdx (Fo.plc yc.i.ents yc.i.next s).toNat) (st := st) hxc hkc (Nat.le_trans (List.length_eraseIdx_le ..) hlen) (fun e he => List.mem_of_mem_eraseIdx he) hst hxd hkd hlend hr1
      have hld : Sp.lessDir (pl L) kc b s st = (pl L).set kc (Sp.filled yc.i (yc.i.ents.eraseIdx (Fo.plc yc.i.ents yc.i.next s).toNat) yc.i.next st) := by
        unfold Sp.lessDir
        rw [hic]
        rfl
      obtain ⟨T1, hT1⟩ : ∃ T1, (pl L).set kc (Sp.filled yc.i (yc.i.ents.eraseIdx (Fo.plc yc.i.ents yc.i.next s).toNat) yc.i.next st) = T1 := ⟨_, rfl⟩
      rw [hT1] at hp1 hx1 hgp hld
      have hmid : Sp.midI (pl L) kc b s st kd = x1 := by
        unfold Sp.midI
        rw [hld, show ((kd : Int)).toNat = kd by omega, hx1]
        rfl
      obtain ⟨ae, hae⟩ : ∃ ae, Fo.addErr x1.ents x1.next s2 q1 q2 = ae := ⟨_, rfl⟩
      obtain ⟨T2, hT2⟩ : ∃ T2, T1.set kd (Sp.filled x1 (x1.ents ++ [(s2, x1.next + 1, q1, q2)]) (x1.next + 1) st) = T2 := ⟨_, rfl⟩
      have hE : Sp.rnE C I (pl L) kc b s kd d s2 st = ae := by
        unfold Sp.rnE
        rw [hte, if_pos rfl, hq, hmv, if_pos rfl, hmid, hae]
      have hT : Sp.rnT C I (pl L) kc b s kd d s2 st = if ae = 0 then T2 else [] := by
        unfold Sp.rnT
        rw [hE, hq, hmid, hld, show ((kd : Int)).toNat = kd by omega, hT2]
      have HAE : Hid (Fo.addErr x1.ents x1.next s2 q1 q2 = ae) := hae
      have HP : Hid (putTab (pl L) kc b (Sp.filled yc.i (yc.i.ents.eraseIdx (Fo.plc yc.i.ents yc.i.next s).toNat) yc.i.next st) = T1) := hp1
      have HPP : Hid (putTab T1 kd d (Sp.filled x1 (x1.ents ++ [(s2, x1.next + 1, q1, q2)]) (x1.next + 1) st) = T2) := by rw [← hgd, ← hT2]; exact (hgp _ _).2
      have HX1 : Hid (T1[kd]? = some x1 ∧ (∀ e ∈ x1.ents, e.1.size ≤ maxLen) ∧ x1.ents.length + 1 ≤ 3518437208883 ∧ At.growErr x1.kind x1.links x1.size x1.stamp (x1.ents.length + 1) st = 0) := ⟨hx1, fun e he => HOK.out yd (List.mem_of_getElem? hyd) e (hsub e he), by omega, (hgp (s2, 0, 0, 0) 0).1⟩
      have HYC : Hid (L[kc]? = some yc ∧ (∀ e ∈ yc.i.ents, e.1.size ≤ maxLen) ∧ Fo.findErr yc.i.ents yc.i.next s = 0 ∧ At.growErr yc.i.kind yc.i.links yc.i.size yc.i.stamp (yc.i.ents.eraseIdx (Fo.plc yc.i.ents yc.i.next s).toNat).length st = 0) :=
        ⟨hyc, HOK.out yc (List.mem_of_getElem? hyc), hff, Sp.grow_ok hr hxc (by omega) hst ⟨by omega, by have := List.length_eraseIdx_le yc.i.ents (Fo.plc yc.i.ents yc.i.next s).toNat; omega⟩⟩
      obtain ⟨R, hR⟩ : ∃ R, (if ae = 0 then T2 else []) = R := ⟨_, rfl⟩
      have HRR : Hid ((if ae = 0 then T2 else []) = R) := hR
      rw [hE, hT, hR]
      clear hR hc0 hxc hgc hkc hfc hff hpl hj hqe hkt hkt0 hxt hgt hkt2 hlk hft hit hic hr hst hlen hq1 hyc hst0 hmv hxd hgd hkd hyd hp1 hr1 hlend hx1 hg1 hk1 hl1 hsub hf1 hgp hld hT1 hmid hae hT2 hE hT hM hte hq
      go_enter Tryz.func26, Tryz.ntmps26
      obtain ⟨⟨a0, a1⟩, _⟩ := two_of HA0.out.1
      go_wp2_with fail
      rw [← hW]
      refine (toChange_any HCC.out.1 _ L kc b s st _ HV.out HOK.out HSM.out.1).mono ?_
      rintro e w1 ⟨rfl, hb1⟩
      rw [HTE.out.1, HTE.out.2]
      have HB1 : Hid (Below w.heap.size w w1) := HB0.out.trans (hb1.mono HB0.out.size)
      have HA1 : Hid (w1.heap[w.heap.size]? = some (BH kc b) ∧ w1.heap[w.heap.size + 1]? = some (BH kd d)) := ⟨(hb1.block _ (by omega)).trans HA0.out.1, (hb1.block _ hws).trans HA0.out.2⟩
      have hw11 : w.heap.size + 1 < w1.heap.size := (Array.getElem?_eq_some_iff.1 HA1.out.2).1
      have hw10 : w.heap.size < w1.heap.size := by omega
      clear hb1 hW a0 a1
      obtain ⟨W1, hW1⟩ : ∃ W1, W1 = w1.alloc (BH q1 q2) := ⟨_, rfl⟩
      have bb1 : Below w1.heap.size w1 W1 := by rw [hW1]; exact (Below.refl _ _).alloc (Nat.le_refl _) _
      have HBW : Hid (Below w.heap.size w W1) := HB1.out.trans (bb1.mono HB1.out.size)
      have HAW : Hid (W1.heap[w.heap.size]? = some (BH kc b) ∧ W1.heap[w1.heap.size]? = some (BH q1 q2) ∧ W1.heap[w.heap.size + 1]? = some (BH kd d)) := ⟨(bb1.block _ hw10).trans HA1.out.1, by rw [hW1]; exact heap_alloc_new _ _, (bb1.block _ hw11).trans HA1.out.2⟩
      have hwt1 : w1.heap.size < W1.heap.size := (Array.getElem?_eq_some_iff.1 HAW.out.2.1).1
      obtain ⟨⟨g0, g1⟩, _⟩ := two_of HA1.out.2
      clear bb1
      go_wp2_with fail
      rw [← hW1]
      refine (refuseMove_any HCC.out.2 _ L q1 q2 kd d s2 _ (HVW.out _ HBW.out) HOK.out HSM.out.2 HCK.out.1 HCK.out.2).mono ?_
      rintro e w2 ⟨rfl, hb2⟩
      rw [HMV.out]
      have HB2 : Hid (Below w.heap.size w w2) := HBW.out.trans (hb2.mono HBW.out.size)
      have HA2 : Hid (w2.heap[w.heap.size]? = some (BH kc b) ∧ w2.heap[w1.heap.size]? = some (BH q1 q2) ∧ w2.heap[w.heap.size + 1]? = some (BH kd d)) := ⟨(hb2.block _ (by omega)).trans HAW.out.1, (hb2.block _ hwt1).trans HAW.out.2.1, (hb2.block _ (by omega)).trans HAW.out.2.2⟩
      clear hb2 hW1 g0 g1
      have HSG : Hid (∀ w' : World, Below w2.heap.size w2 w' → w'.cell? ⟨w.heap.size, 0, none⟩ = some (.int .i64 kc) ∧ w'.cell? ⟨w.heap.size, 1, none⟩ = some (.int .i64 b) ∧ w'.cell? ⟨w1.heap.size, 0, none⟩ = some (.int .i64 q1) ∧ w'.cell? ⟨w1.heap.size, 1, none⟩ = some (.int .i64 q2) ∧ w'.cell? ⟨w.heap.size + 1, 0, none⟩ = some (.int .i64 kd) ∧ w'.cell? ⟨w.heap.size + 1, 1, none⟩ = some (.int .i64 d)) := fun V h => by
        obtain ⟨⟨a0, a1⟩, _⟩ := two_of HA2.out.1
        obtain ⟨⟨t0, t1⟩, _⟩ := two_of HA2.out.2.1
        obtain ⟨⟨g0, g1⟩, _⟩ := two_of HA2.out.2.2
        exact ⟨cell_step a0 h, cell_step a1 h, cell_step t0 h, cell_step t1 h, cell_step g0 h, cell_step g1 h⟩
      have HREM : Hid (∀ V, Below w2.heap.size w2 V → Calls Tryz.prog 58 #[.slice ao L.length cap, .agg #[.int .i64 kc, .int .i64 b], .string s, .int .i64 st] V fun e w' => ∃ u L', e = .returned u ∧ TabAt (fun b => V.heap.size ≤ b) w' u L' ∧ pl L' = T1 ∧ Below V.heap.size V w') := fun V h => (sremove_any _ L kc b st s yc V (HVW.out _ (HB2.out.trans (h.mono HB2.out.size))) HYC.out.1 HYC.out.2.1 HSM.out.1 HYC.out.2.2.1 HYC.out.2.2.2).mono fun e w' ⟨u, L', h1, h2, h3, h4⟩ => ⟨u, L', h1, h2, by rw [h3]; exact HP.out, h4⟩
      have HADD : Hid (∀ V u L1 (S : Nat → Prop), TabAt S V u L1 → pl L1 = T1 → Calls Tryz.prog 47 #[u, .agg #[.int .i64 kd, .int .i64 d], .string s2, .agg #[.int .i64 q1, .int .i64 q2], .int .i64 st] V fun e w' => ∃ u L', e = .returned (.tuple #[u, .int .i64 ae]) ∧ TabAt (fun b => V.heap.size ≤ b) w' u L' ∧ pl L' = R ∧ Below V.heap.size V w') := fun V u L1 S h hp => by
        obtain ⟨y1, hy1, hyi⟩ := Sp.pl_some (L := L1) (k := kd) (x := x1) (by rw [hp]; exact HX1.out.1)
        refine (sadd_any u L1 kd d q1 q2 st s2 y1 V h hy1 (by rw [hyi]; exact HX1.out.2.1) HSM.out.2 (by rw [hyi]; exact fun _ => HX1.out.2.2)).mono fun e w' ⟨u, L', h1, h2, h3, h4⟩ => ⟨u, L', ?_, h2, ?_, h4⟩
        · rw [h1, hyi, HAE.out]
        · rw [h3, hyi, HAE.out, hp, HPP.out, HRR.out]
      go_wp2_with fail
      go_region_held3 (fun w' => w'.cell? ⟨w.heap.size, 0, none⟩ = some (.int .i64 kc) ∧ w'.cell? ⟨w.heap.size, 1, none⟩ = some (.int .i64 b) ∧ w'.cell? ⟨w1.heap.size, 0, none⟩ = some (.int .i64 q1) ∧ w'.cell? ⟨w1.heap.size, 1, none⟩ = some (.int .i64 q2) ∧ w'.cell? ⟨w.heap.size + 1, 0, none⟩ = some (.int .i64 kd) ∧ w'.cell? ⟨w.heap.size + 1, 1, none⟩ = some (.int .i64 d)) (first | exact HSG.out _ (by (repeat (first | assumption | exact Below.refl _ _ | refine bel_drew ?_ | refine Below.setCell ?_ (by first | exact Nat.le_refl _ | assumption) _ | refine Below.alloc ?_ (by first | exact Nat.le_refl _ | assumption) _)))) (first
        | (go_at_call 58; refine (HREM.out _ (by (repeat (first | assumption | exact Below.refl _ _ | refine bel_drew ?_ | refine Below.setCell ?_ (by first | exact Nat.le_refl _ | assumption) _ | refine Below.alloc ?_ (by first | exact Nat.le_refl _ | assumption) _)))).mono ?_; rintro e w3 ⟨u3, L3, rfl, ht3, hp3, hb3⟩; have hb33 : Below w2.heap.size w2 w3 := undrew hb3; clear hb3)
        | (go_at_call 47; refine (HADD.out _ _ L3 _ ht3 hp3).mono ?_; rintro e w4 ⟨u4, L4, rfl, ht4, hp4, hb4⟩; have hb44 : Below w2.heap.size w2 w4 := hb33.trans (hb4.mono hb33.size)))
      all_goals
        have HB4 : Hid (Below w.heap.size w w4) := HB2.out.trans (hb44.mono HB2.out.size)
        have hw3 : w.heap.size ≤ w3.heap.size := Nat.le_trans HB2.out.size hb33.size
        have HT4 : Hid (TabAt (fun b => w.heap.size ≤ b) w4 u4 L4) := ⟨ht4.1.imp fun _ h _ => Nat.le_trans hw3 h, fun y hy => (ht4.2 y hy).imp fun _ h _ => Nat.le_trans hw3 h⟩
        have HP4 : Hid (pl L4 = R) := hp4
        clear ht4 hp4 hb4 ht3 hp3
        go_wp2
        (try simp only [Exit.inBlock, Exit.then])
        refine bodyPost_ret (v := .tuple #[u4, .int .i64 ae]) (by simp [results, Tryz.results26, go_sem]) rfl ?_
        first
          | exact ⟨u4, rfl, L4, HT4.out, HP4.out, HB4.out⟩
          | exact ⟨u4, L4, rfl, HT4.out, HP4.out, HB4.out⟩
    · have hE : Sp.rnE C I (pl L) kc b s c d s2 st = mv := by unfold Sp.rnE; rw [hte, if_pos rfl, hq, hmv, if_neg hm0]
      have hT : Sp.rnT C I (pl L) kc b s c d s2 st = [] := by unfold Sp.rnT; rw [if_neg (by rw [hE]; exact hm0)]
      rw [hE, hT]
      have hz' : (mv != 0) = true := by simpa using hm0
      clear hc0 hxc hgc hkc hfc hff hpl hj hqe hkt hkt0 hxt hgt hkt2 hlk hft hit hic hr hst hlen hq1 hyc hst0 hmv hm0 hE hT hM hte hq
      go_enter Tryz.func26, Tryz.ntmps26
      obtain ⟨⟨a0, a1⟩, _⟩ := two_of HA0.out.1
      go_wp2_with fail
      rw [← hW]
      refine (toChange_any HCC.out.1 _ L kc b s st _ HV.out HOK.out HSM.out.1).mono ?_
      rintro e w1 ⟨rfl, hb1⟩
      rw [HTE.out.1, HTE.out.2]
      have HB1 : Hid (Below w.heap.size w w1) := HB0.out.trans (hb1.mono HB0.out.size)
      have HA1 : Hid (w1.heap[w.heap.size]? = some (BH kc b) ∧ w1.heap[w.heap.size + 1]? = some (BH c d)) := ⟨(hb1.block _ (by omega)).trans HA0.out.1, (hb1.block _ hws).trans HA0.out.2⟩
      have hw11 : w.heap.size + 1 < w1.heap.size := (Array.getElem?_eq_some_iff.1 HA1.out.2).1
      have hw10 : w.heap.size < w1.heap.size := by omega
      clear hb1 hW a0 a1
      obtain ⟨W1, hW1⟩ : ∃ W1, W1 = w1.alloc (BH q1 q2) := ⟨_, rfl⟩
      have bb1 : Below w1.heap.size w1 W1 := by rw [hW1]; exact (Below.refl _ _).alloc (Nat.le_refl _) _
      have HBW : Hid (Below w.heap.size w W1) := HB1.out.trans (bb1.mono HB1.out.size)
      have HAW : Hid (W1.heap[w.heap.size]? = some (BH kc b) ∧ W1.heap[w1.heap.size]? = some (BH q1 q2) ∧ W1.heap[w.heap.size + 1]? = some (BH c d)) := ⟨(bb1.block _ hw10).trans HA1.out.1, by rw [hW1]; exact heap_alloc_new _ _, (bb1.block _ hw11).trans HA1.out.2⟩
      have hwt1 : w1.heap.size < W1.heap.size := (Array.getElem?_eq_some_iff.1 HAW.out.2.1).1
      obtain ⟨⟨g0, g1⟩, _⟩ := two_of HA1.out.2
      clear bb1
      go_wp2_with fail
      rw [← hW1]
      refine (refuseMove_any HCC.out.2 _ L q1 q2 c d s2 _ (HVW.out _ HBW.out) HOK.out HSM.out.2 HCK.out.1 HCK.out.2).mono ?_
      rintro e w2 ⟨rfl, hb2⟩
      rw [HMV.out]
      have HB2 : Hid (Below w.heap.size w w2) := HBW.out.trans (hb2.mono HBW.out.size)
      have HA2 : Hid (w2.heap[w.heap.size]? = some (BH kc b) ∧ w2.heap[w1.heap.size]? = some (BH q1 q2) ∧ w2.heap[w.heap.size + 1]? = some (BH c d)) := ⟨(hb2.block _ (by omega)).trans HAW.out.1, (hb2.block _ hwt1).trans HAW.out.2.1, (hb2.block _ (by omega)).trans HAW.out.2.2⟩
      clear hb2 hW1 g0 g1
      go_wp2
      (try simp only [Exit.inBlock, Exit.then])
      refine bodyPost_ret (v := .tuple #[.slice none 0 0, .int .i64 mv]) (by simp [results, Tryz.results26, go_sem]) rfl ?_
      have hbe := HB2.out
      have hbs := hbe.size
      first
        | exact ⟨_, rfl, [], tab_nil _ _, rfl, by repeat (first | exact hbe | refine Below.setCell ?_ (by simp) _ | refine Below.alloc ?_ (by first | omega | (simp; omega)) _)⟩
        | exact ⟨_, [], rfl, tab_nil _ _, rfl, by repeat (first | exact hbe | refine Below.setCell ?_ (by simp) _ | refine Below.alloc ?_ (by first | omega | (simp; omega)) _)⟩
  · have hE : Sp.rnE C I (pl L) a b s c d s2 st = te := by unfold Sp.rnE; rw [if_neg (by rw [hte]; exact hz), hte]
    have hT : Sp.rnT C I (pl L) a b s c d s2 st = [] := by unfold Sp.rnT; rw [if_neg (by rw [hE]; exact hz)]
    rw [hE, hT]
    have hz' : (te != 0) = true := by simpa using hz
    clear hz hE hT hte hM hq
    go_enter Tryz.func26, Tryz.ntmps26
    obtain ⟨⟨a0, a1⟩, _⟩ := two_of HA0.out.1
    go_wp2_with fail
    rw [← hW]
    refine (toChange_any HCC.out.1 _ L a b s st _ HV.out HOK.out HSM.out.1).mono ?_
    rintro e w1 ⟨rfl, hb1⟩
    rw [HTE.out.1, HTE.out.2]
    have HB1 : Hid (Below w.heap.size w w1) := HB0.out.trans (hb1.mono HB0.out.size)
    have HA1 : Hid (w1.heap[w.heap.size]? = some (BH a b) ∧ w1.heap[w.heap.size + 1]? = some (BH c d)) := ⟨(hb1.block _ (by omega)).trans HA0.out.1, (hb1.block _ hws).trans HA0.out.2⟩
    have hw11 : w.heap.size + 1 < w1.heap.size := (Array.getElem?_eq_some_iff.1 HA1.out.2).1
    have hw10 : w.heap.size < w1.heap.size := by omega
    clear hb1 hW a0 a1
    go_wp2
    (try simp only [Exit.inBlock, Exit.then])
    refine bodyPost_ret (v := .tuple #[.slice none 0 0, .int .i64 te]) (by simp [results, Tryz.results26, go_sem]) rfl ?_
    have hbe := HB1.out
    have hbs := hbe.size
    first
      | exact ⟨_, rfl, [], tab_nil _ _, rfl, by repeat (first | exact hbe | refine Below.setCell ?_ (by simp) _ | refine Below.alloc ?_ (by first | omega | (simp; omega)) _)⟩
      | exact ⟨_, [], rfl, tab_nil _ _, rfl, by repeat (first | exact hbe | refine Below.setCell ?_ (by simp) _ | refine Below.alloc ?_ (by first | omega | (simp; omega)) _)⟩
end Go.Proofs.YtacghcoikekfeaaGreat
/- RNm -/
namespace Go.Proofs.YtacghcoikekfeaaGreat
open Go.ChangeShapes Go.WideShapes Go.ChangeAt Go.RowKit Go.Deep It
set_option maxRecDepth 100000
def Sp.toI (no : Int) (e : Sp.En) : Bool := e.2.2.1 == no
/-- How many entries name an inode's number. -/
def Sp.nmv (L : List Ino) (no : Int) : Nat := (Sp.allEnts L).countP (Sp.toI no)
theorem Sp.nmv_step {L : List Rw} {k : Nat} {x : Rw} (h : L[k]? = some x) (no : Int) : Sp.nmv (pl (L.take (k + 1))) no = Sp.nmv (pl (L.take k)) no + x.i.ents.countP (Sp.toI no) := by
  rw [List.take_add_one, h]
  simp [Sp.nmv, Sp.allEnts, List.countP_append]
theorem cntP_step {α : Type} {q : α → Bool} {l : List α} {j : Nat} {e : α} (h : l[j]? = some e) : (l.take (j + 1)).countP q = (l.take j).countP q + if q e = true then 1 else 0 := by
  rw [List.take_add_one, h]
  simp [List.countP_append, List.countP_cons]
theorem Sp.nmv_le {S : Nat → Prop} {w : World} {L : List Rw} (no : Int) (h : ∀ x ∈ L, Good S w x) : ∀ k, k ≤ L.length → Sp.nmv (pl (L.take k)) no ≤ k * 3518437208883
  | 0, _ => by simp [Sp.nmv, Sp.allEnts]
  | k + 1, hk => by
    have hx : L[k]? = some L[k] := List.getElem?_eq_getElem hk
    rw [Sp.nmv_step hx]
    have h1 := Sp.nmv_le no h k (by omega)
    have h2 := (h _ (List.mem_of_getElem? hx)).2.2.2.2
    have h3 : L[k].i.ents.countP (Sp.toI no) ≤ L[k].i.ents.length := List.countP_le_length
    omega
theorem tab_eight {w : World} {L : List Rw} {S : Nat → Prop} {ao : Option Addr} {n cap : Nat} (h : TabAt S w (.slice ao n cap) L) {i : Nat} {x : Rw} (hi : L[i]? = some x) :
    (∃ b off, ao = some ⟨b, off, none⟩ ∧ b < w.heap.size ∧ eight w b (off + i * 8) x) ∧ x.en = x.i.ents.length ∧ x.i.ents.length ≤ 3518437208883 ∧
    ∀ j e, x.i.ents[j]? = some e → ∃ b off, x.ep = some ⟨b, off, none⟩ ∧ b < w.heap.size ∧ ent4 w b (off + j * 4) e := by
  obtain ⟨ao', cap', hv, -, hx⟩ := h.open
  simp only [Value.slice.injEq] at hv
  obtain ⟨rfl, -, rfl⟩ := hv
  obtain ⟨h1, h2⟩ := hx i x hi
  refine ⟨h1, h2.len.2, h2.2.2.2.2, fun j e he => ?_⟩
  obtain ⟨eo, ecap, hev, -, hents⟩ := h2.2.1.open
  simp only [Value.slice.injEq] at hev
  obtain ⟨rfl, -, rfl⟩ := hev
  obtain ⟨b2, off2, h1, -, h3, hc⟩ := hents j e he
  exact ⟨b2, off2, h1, h3, hc 0 _ rfl, hc 1 _ rfl, hc 2 _ rfl, hc 3 _ rfl⟩
theorem ent4.below {w w' : World} {b o B : Nat} {e : Sp.En} (h : ent4 w b o e) (hb : Below B w w') (hB : b < B) : ent4 w' b o e :=
  ⟨(hb.cell (p := ⟨b, o, none⟩) hB).trans h.1, (hb.cell (p := ⟨b, o + 1, none⟩) hB).trans h.2.1, (hb.cell (p := ⟨b, o + 2, none⟩) hB).trans h.2.2.1, (hb.cell (p := ⟨b, o + 3, none⟩) hB).trans h.2.2.2⟩
set_option maxHeartbeats 2000000 in
theorem rnum_any {S : Nat → Prop} (v : Value) (L : List Rw) (no : Int) (w : World) (hv : TabAt S w v L) (hL : L.length ≤ 24) :
    Calls Tryz.prog 38 #[v, .int .i64 no] w fun e w' => e = .returned (.int .i64 (Sp.nmv (pl L) no : Nat)) ∧ Below w.heap.size w w' := by
  obtain ⟨ao, cap, rfl, -, -⟩ := hv.open
  obtain ⟨n, hn⟩ : ∃ n, L.length = n := ⟨_, rfl⟩
  have HLE : Hid (∀ k, k ≤ L.length → Sp.nmv (pl (L.take k)) no ≤ k * 3518437208883) := Sp.nmv_le no hv.2
  rw [hn] at hv hL ⊢
  have HN : Hid (L.length = n) := hn
  have HV : Hid (TabAt S w (.slice ao n cap) L) := hv
  obtain ⟨r, hr⟩ : ∃ r, Sp.nmv (pl L) no = r := ⟨_, rfl⟩
  have HR : Hid (Sp.nmv (pl L) no = r) := hr
  rw [hr]
  clear hr hn hv
  go_enter Tryz.func38, Tryz.ntmps38
  go_wp2
  go_loopw [5, 12] (fun g i wr => ∃ k : Nat, k ≤ n ∧ i = .int .i64 k ∧ g = .int .i64 (Sp.nmv (pl (L.take k)) no : Nat) ∧ Hid (Below w.heap.size w wr)) (fun _ i _ => n - (intOf i).toNat)
  case atStart => exact ⟨0, Nat.zero_le _, rfl, rfl, Below.refl _ _⟩
  case round =>
    obtain ⟨k, hk, rfl, rfl, HB⟩ := hrel
    have hsz := HB.out.size
    obtain ⟨g, hg⟩ : ∃ g, Sp.nmv (pl (L.take k)) no = g := ⟨_, rfl⟩
    have HGG : Hid (Sp.nmv (pl (L.take k)) no = g) := hg
    have hgb := HLE.out k (by rw [HN.out]; exact hk)
    rw [hg] at hgb ⊢
    clear hg
    by_cases hlt : k < n
    · obtain ⟨x, hxk⟩ : ∃ x, L[k]? = some x := ⟨_, List.getElem?_eq_getElem (by rw [HN.out]; exact hlt)⟩
      have HXK : Hid (L[k]? = some x) := hxk
      obtain ⟨⟨b, off, rfl, hB, hc⟩, hen, hel, hes⟩ := tab_eight HV.out hxk
      have HES : Hid (∀ j e, x.i.ents[j]? = some e → ∃ b off, x.ep = some ⟨b, off, none⟩ ∧ b < w.heap.size ∧ ent4 w b (off + j * 4) e) := hes
      obtain ⟨c0, c1, c2, c3, c4, c5, c6, c7⟩ := hc.below HB.out hB
      have hlt' : (k : Int) < (n : Int) := by omega
      obtain ⟨m, hm⟩ : ∃ m, x.en = m := ⟨_, rfl⟩
      obtain ⟨ep, hep⟩ : ∃ ep, x.ep = ep := ⟨_, rfl⟩
      have HM : Hid (x.i.ents.length = m) := hen.symm.trans hm
      have hmb : m ≤ 3518437208883 := by rw [← HM.out]; exact hel
      have HEP : Hid (x.ep = ep) := hep
      rw [hm, hep] at c6
      clear hc hxk hes hen hel hm hep
      go_wp2
      go_loopw [5, 19] (fun t i wr => ∃ j : Nat, j ≤ m ∧ i = .int .i64 j ∧ t = .int .i64 ((g + (x.i.ents.take j).countP (Sp.toI no) : Nat) : Int) ∧ Hid (Below w.heap.size w wr)) (fun _ i _ => m - (intOf i).toNat)
      case atStart => exact ⟨0, Nat.zero_le _, rfl, by simp, HB.out.alloc hsz _⟩
      case round =>
        obtain ⟨j, hj, rfl, rfl, HB2⟩ := hrel
        have hsz2 := HB2.out.size
        clear c0 c1 c2 c3 c4 c5 c6 c7
        obtain ⟨t, ht⟩ : ∃ t, (x.i.ents.take j).countP (Sp.toI no) = t := ⟨_, rfl⟩
        have HT : Hid ((x.i.ents.take j).countP (Sp.toI no) = t) := ht
        have htb : t ≤ j := by rw [← ht]; exact Nat.le_trans List.countP_le_length (by rw [List.length_take]; omega)
        rw [ht]
        clear ht
        by_cases hlt2 : j < m
        · obtain ⟨⟨s, ck, no2, gn⟩, hej⟩ : ∃ e, x.i.ents[j]? = some e := ⟨_, List.getElem?_eq_getElem (by rw [HM.out]; exact hlt2)⟩
          obtain ⟨b2, off2, hep, hb2, h4⟩ := HES.out j _ hej
          obtain rfl : ep = some ⟨b2, off2, none⟩ := HEP.out.symm.trans hep
          obtain ⟨d0, d1, d2, d3⟩ := h4.below HB2.out hb2
          simp only at d0 d1 d2 d3
          have hlt2' : (j : Int) < (m : Int) := by omega
          have HST : Hid ((x.i.ents.take (j + 1)).countP (Sp.toI no) = t + if no2 = no then 1 else 0) := by
            show _ = _
            rw [cntP_step hej, HT.out]
            simp [Sp.toI]
          clear hej hep h4
          by_cases he : no2 = no
          · subst he
            rw [if_pos rfl] at HST
            go_wp2
            go_roundw
            case rel => exact ⟨j + 1, by omega, by go_num, by rw [HST.out]; go_num, HB2.out.alloc hsz2 _⟩
            case measure => simp [intOf]; omega
          · rw [if_neg he] at HST
            go_wp2
            go_roundw
            case rel => exact ⟨j + 1, by omega, by go_num, by rw [HST.out]; rfl, HB2.out.alloc hsz2 _⟩
            case measure => simp [intOf]; omega
        · obtain rfl : j = m := by omega
          have HT2 : Hid (Sp.nmv (pl (L.take (k + 1))) no = g + t) := by
            show _ = _
            rw [Sp.nmv_step HXK.out, HGG.out, ← HT.out, List.take_of_length_le (by rw [HM.out]; exact Nat.le_refl _)]
          go_wp2
          go_roundw
          case rel => exact ⟨k + 1, by omega, by go_num, by rw [HT2.out], HB2.out⟩
          case measure => simp [intOf]; omega
    · obtain rfl : k = n := by omega
      have HT : Hid (r = g) := by
        show r = g
        rw [← HGG.out, List.take_of_length_le (by rw [HN.out]; exact Nat.le_refl _), HR.out]
      go_wp2
      go_ret
      rw [HT.out]
      exact ⟨rfl, HB.out⟩
end Go.Proofs.YtacghcoikekfeaaGreat
/- RRe -/
namespace Go.Proofs.YtacghcoikekfeaaGreat
open Go.ChangeShapes Go.WideShapes Go.ChangeAt Go.RowKit Go.Deep It
set_option maxRecDepth 100000
namespace Sp
/-- An inode is d entries away from another one. -/
def Rch (L : List Ino) : Nat → Nat → Nat → Prop
  | 0, a, c => a = c
  | d + 1, a, c => ∃ p, Rch L d a p ∧ p < L.length ∧ ∃ e ∈ entsAt L p, e.2.2.1 = (c : Int)
def Sound (L : List Ino) (a : Nat) (f : Nat → Bool) : Prop := ∀ c, c < L.length → f c = true → ∃ d, Rch L d a c
def Full (L : List Ino) (a r : Nat) (f : Nat → Bool) : Prop := ∀ d, d ≤ r → ∀ c, c < L.length → Rch L d a c → f c = true
/-- In the middle of a round: what was set at its start, what is now, how far it is. -/
structure Mid (L : List Ino) (a : Nat) (f0 f : Nat → Bool) (k j : Nat) : Prop where
  sound : Sound L a f
  mono : ∀ c, f0 c = true → f c = true
  past : ∀ i, i < k → f0 i = true → ∀ e ∈ entsAt L i, ∀ c : Nat, e.2.2.1 = (c : Int) → c < L.length → f c = true
  here : f0 k = true → ∀ e ∈ (entsAt L k).take j, ∀ c : Nat, e.2.2.1 = (c : Int) → c < L.length → f c = true
def setB (f : Nat → Bool) (c : Nat) (i : Nat) : Bool := if i = c then true else f i
theorem Mid.start {L : List Ino} {a : Nat} {f : Nat → Bool} (h : Sound L a f) : Mid L a f f 0 0 := ⟨h, fun _ h => h, fun i hi => by omega, fun _ e he => by simp at he⟩
theorem setB_mono {f : Nat → Bool} {c i : Nat} (h : f i = true) : setB f c i = true := by unfold setB; split; rfl; exact h
theorem Mid.set {L : List Ino} {a : Nat} {f0 f : Nat → Bool} {k j c : Nat} {e : En} (h : Mid L a f0 f k j) (hk : k < L.length) (he : (entsAt L k)[j]? = some e) (hf : f k = true) (hc : e.2.2.1 = (c : Int)) : Mid L a f0 (setB f c) k (j + 1) := by
  refine ⟨fun i hi hs => ?_, fun i hi => setB_mono (h.mono i hi), fun i hi h0 e' he' c' hc' hl => setB_mono (h.past i hi h0 e' he' c' hc' hl), fun h0 e' he' c' hc' hl => ?_⟩
  · by_cases hic : i = c
    · subst hic
      obtain ⟨d, hd⟩ := h.sound k hk hf
      exact ⟨d + 1, k, hd, hk, e, List.mem_of_getElem? he, hc⟩
    · unfold setB at hs
      rw [if_neg hic] at hs
      exact h.sound i hi hs
  · rw [List.take_add_one, he] at he'
    rcases List.mem_append.1 he' with he' | he'
    · exact setB_mono (h.here h0 e' he' c' hc' hl)
    · simp at he'
      subst he'
      unfold setB
      rw [if_pos (by omega)]
theorem Mid.skip {L : List Ino} {a : Nat} {f0 f : Nat → Bool} {k j : Nat} {e : En} (h : Mid L a f0 f k j) (he : (entsAt L k)[j]? = some e) (hf : f k = true → 0 ≤ e.2.2.1 → (L.length : Int) ≤ e.2.2.1) : Mid L a f0 f k (j + 1) := by
  refine ⟨h.sound, h.mono, h.past, fun h0 e' he' c' hc' hl => ?_⟩
  rw [List.take_add_one, he] at he'
  rcases List.mem_append.1 he' with he' | he'
  · exact h.here h0 e' he' c' hc' hl
  · simp at he'
    subst he'
    have := hf (h.mono k h0) (by omega)
    omega
theorem Mid.next {L : List Ino} {a : Nat} {f0 f : Nat → Bool} {k j : Nat} (h : Mid L a f0 f k j) (hj : (entsAt L k).length ≤ j) : Mid L a f0 f (k + 1) 0 := by
  refine ⟨h.sound, h.mono, fun i hi h0 e he c hc hl => ?_, fun _ e he => by simp at he⟩
  by_cases hik : i = k
  · subst hik
    exact h.here h0 e (by rw [List.take_of_length_le hj]; exact he) c hc hl
  · exact h.past i (by omega) h0 e he c hc hl
theorem Mid.done {L : List Ino} {a r : Nat} {f0 f : Nat → Bool} (h : Mid L a f0 f L.length 0) (hf : Full L a r f0) : Full L a (r + 1) f := by
  intro d hd c hc hr
  by_cases hd' : d ≤ r
  · exact h.mono c (hf d hd' c hc hr)
  · have : d = r + 1 := by omega
    subst this
    obtain ⟨p, hp, hpl, e, he, hec⟩ := hr
    exact h.past p hpl (hf r (Nat.le_refl _) p hpl hp) e he c hec hc
theorem sound_one {L : List Ino} {a : Nat} : Sound L a (setB (fun _ => false) a) := fun c _ hs => by
  unfold setB at hs
  split at hs
  · rename_i h; exact ⟨0, h.symm⟩
  · cases hs
theorem full_one {L : List Ino} {a : Nat} : Full L a 0 (setB (fun _ => false) a) := fun d hd c _ hr => by
  have : d = 0 := by omega
  subst this
  have h : a = c := hr
  unfold setB
  rw [if_pos h.symm]
end Sp
theorem bools_set {w : World} {b n : Nat} {f : Nat → Bool} (h : w.rowIs b 4 n (fun i => .bool (f i))) (c : Nat) : (w.setCell ⟨b, c, none⟩ (.bool true)).rowIs b 4 n (fun i => .bool (Sp.setB f c i)) :=
  (h.set c (.bool true)).congr fun i _ => by unfold Sp.setB; split <;> rfl
theorem Tryz.info4 : (Tryz.prog.info? 4).map (fun i => (i.zero, i.size, i.bytes)) = some (some (.bool false), 1, 1) := by kernel_rfl
set_option maxHeartbeats 4000000 in
theorem reach_any {S : Nat → Prop} (v : Value) (L : List Rw) (no : Nat) (w : World) (hv : TabAt S w v L) (hL : L.length ≤ 1000) (hno : no < L.length) :
    Calls Tryz.prog 39 #[v, .int .i64 no] w fun e w' => e = .returned (.slice (some ⟨w.heap.size, 0, none⟩) L.length L.length) ∧ Below w.heap.size w w' ∧ ∃ f : Nat → Bool, w'.rowIs w.heap.size 4 L.length (fun i => .bool (f i)) ∧ Sp.Sound (pl L) no f ∧ Sp.Full (pl L) no L.length f := by
  obtain ⟨ao, cap, rfl, -, -⟩ := hv.open
  obtain ⟨n, hn⟩ : ∃ n, L.length = n := ⟨_, rfl⟩
  rw [hn] at hv hL hno ⊢
  have HN : Hid (L.length = n) := hn
  have HPL : Hid ((pl L).length = n) := by show _ = _; rw [List.length_map]; exact hn
  have HV : Hid (TabAt S w (.slice ao n cap) L) := hv
  clear hn hv
  obtain ⟨ti, hti, htz⟩ := Option.map_eq_some_iff.1 Tryz.info4
  simp only [Prod.mk.injEq] at htz
  obtain ⟨htz, hts, htb⟩ := htz
  have htbb : ti.bytes * n ≤ 281474976710656 := by rw [htb]; omega
  obtain ⟨b, hb⟩ : ∃ b, w.heap.size = b := ⟨_, rfl⟩
  obtain ⟨W1, hW1⟩ : ∃ W1, W1 = w.alloc (.cells (madeCells #[.bool false] n) 4) := ⟨_, rfl⟩
  have HB1 : Hid (Below w.heap.size w W1) := by show Below _ _ _; rw [hW1]; exact (Below.refl _ _).alloc (Nat.le_refl _) _
  have HR1 : Hid (W1.rowIs b 4 n (fun i => .bool ((fun _ => false) i))) := by show World.rowIs _ _ _ _ _; rw [hW1, ← hb]; exact World.rowIs_made w (.bool false) n 4
  have HBB : Hid (w.heap.size = b) := hb
  have hno' : (no : Int) < (n : Int) := by omega
  go_enter Tryz.func39, Tryz.ntmps39
  have HW1 : Hid (w.alloc (.cells (madeCells #[.bool false] n) 4) = W1) := hW1.symm
  clear hW1
  have c1 := HR1.out.cell hno
  have f1 := HR1.out.frozen no
  clear hb
  go_wp2_with (refine wpList_make_row _ rfl (.tmp 12) (.tmp 12) 72 rfl 4 ti (.bool false) rfl hti htz hts rfl .i64 .i64 n rfl rfl htbb (by omega) ?_; rw [HW1.out, HBB.out])
  obtain ⟨W2, hW2⟩ : ∃ W2, W2 = W1.setCell ⟨b, no, none⟩ (.bool true) := ⟨_, rfl⟩
  have HB2 : Hid (Below b w W2) := by show Below _ _ _; rw [hW2, ← HBB.out]; exact HB1.out.setCell (Nat.le_refl _) _
  have HR2 : Hid (W2.rowIs b 4 n (fun i => .bool (Sp.setB (fun _ => false) no i))) := by show World.rowIs _ _ _ _ _; rw [hW2]; exact bools_set HR1.out no
  try rw [← hW2]
  clear c1 f1 hW2 hti htz hts htb htbb
  go_loopw [6] (fun i wr => ∃ (r : Nat) (f : Nat → Bool), r ≤ n ∧ i = .int .i64 r ∧ Hid (Sp.Sound (pl L) no f ∧ Sp.Full (pl L) no r f) ∧ Hid (wr.rowIs b 4 n (fun i => .bool (f i))) ∧ Hid (Below b w wr)) (fun i _ => n - (intOf i).toNat)
  case atStart => exact ⟨0, _, Nat.zero_le _, rfl, ⟨Sp.sound_one, Sp.full_one⟩, HR2.out, HB2.out⟩
  case round =>
    obtain ⟨r, f0, hr, rfl, HF0, HR3, HB3⟩ := hrel
    by_cases hrn : r < n
    · have hrn' : (r : Int) < (n : Int) := by omega
      go_wp2
      go_loopw [25] (fun i wr => ∃ (k : Nat) (f : Nat → Bool), k ≤ n ∧ i = .int .i64 k ∧ Hid (Sp.Mid (pl L) no f0 f k 0) ∧ Hid (wr.rowIs b 4 n (fun i => .bool (f i))) ∧ Hid (Below b w wr)) (fun i _ => n - (intOf i).toNat)
      case atStart => exact ⟨0, f0, Nat.zero_le _, rfl, Sp.Mid.start HF0.out.1, HR3.out, HB3.out⟩
      case round =>
        obtain ⟨k, f, hk, rfl, HM0, HR4, HB4⟩ := hrel
        by_cases hkn : k < n
        · obtain ⟨x, hxk⟩ : ∃ x, L[k]? = some x := ⟨_, List.getElem?_eq_getElem (by rw [HN.out]; exact hkn)⟩
          obtain ⟨⟨b1, off, rfl, hB, hc⟩, hen, hel, hes⟩ := tab_eight HV.out hxk
          have HES : Hid (∀ j e, x.i.ents[j]? = some e → ∃ b' off, x.ep = some ⟨b', off, none⟩ ∧ b' < b ∧ ent4 w b' (off + j * 4) e) := by rw [← HBB.out]; exact hes
          have HEA : Hid (Sp.entsAt (pl L) k = x.i.ents) := (ents_at hxk).1
          obtain ⟨c0, c1, c2, c3, c4, c5, c6, c7⟩ := hc.below HB4.out (by rw [← HBB.out]; exact hB)
          have hkn' : (k : Int) < (n : Int) := by omega
          obtain ⟨m, hm⟩ : ∃ m, x.en = m := ⟨_, rfl⟩
          obtain ⟨ep, hep⟩ : ∃ ep, x.ep = ep := ⟨_, rfl⟩
          have HM : Hid (x.i.ents.length = m) := hen.symm.trans hm
          have hmb : m ≤ 3518437208883 := by rw [← HM.out]; exact hel
          have HEP : Hid (x.ep = ep) := hep
          rw [hm, hep] at c6
          clear hc hxk hes hen hel hm hep
          go_wp2
          go_loopw [33] (fun i wr => ∃ (j : Nat) (f : Nat → Bool), j ≤ m ∧ i = .int .i64 j ∧ Hid (Sp.Mid (pl L) no f0 f k j) ∧ Hid (wr.rowIs b 4 n (fun i => .bool (f i))) ∧ Hid (Below b w wr)) (fun i _ => m - (intOf i).toNat)
          case atStart => exact ⟨0, f, Nat.zero_le _, rfl, HM0.out, HR4.out.alloc _, HB4.out.alloc (Nat.le_of_lt HR4.out.lt) _⟩
          case round =>
            obtain ⟨j, f5, hj, rfl, HM5, HR5, HB5⟩ := hrel
            have hlt5 := HR5.out.lt
            have hsz5 := Nat.le_of_lt hlt5
            clear c0 c1 c2 c3 c4 c5 c6 c7
            by_cases hjm : j < m
            · obtain ⟨⟨s, ck, no2, gn⟩, hej⟩ : ∃ e, x.i.ents[j]? = some e := ⟨_, List.getElem?_eq_getElem (by rw [HM.out]; exact hjm)⟩
              obtain ⟨b2, off2, hep, hb2, h4⟩ := HES.out j _ hej
              obtain rfl : ep = some ⟨b2, off2, none⟩ := HEP.out.symm.trans hep
              obtain ⟨d0, d1, d2, d3⟩ := h4.below HB5.out hb2
              simp only at d0 d1 d2 d3
              have hjm' : (j : Int) < (m : Int) := by omega
              have HEJ : Hid ((Sp.entsAt (pl L) k)[j]? = some (s, ck, no2, gn)) := by rw [HEA.out]; exact hej
              have q1 := HR5.out.cell hkn
              clear hej hep h4
              by_cases hset : f5 k = true ∧ 0 ≤ no2 ∧ no2 < (n : Int)
              · obtain ⟨hs1, hs2, hs3⟩ := hset
                obtain ⟨c, rfl⟩ : ∃ c : Nat, no2 = (c : Int) := ⟨no2.toNat, by omega⟩
                have hcn : c < n := by omega
                rw [hs1] at q1
                have q2 := HR5.out.cell hcn
                have q3 := HR5.out.frozen c
                have HM6 : Hid (Sp.Mid (pl L) no f0 (Sp.setB f5 c) k (j + 1)) := HM5.out.set (by rw [HPL.out]; exact hkn) HEJ.out hs1 rfl
                clear hs1
                go_wp2
                go_roundw
                case rel => exact ⟨j + 1, _, by omega, by go_num, HM6.out, by first | exact bools_set (HR5.out.alloc _) c | exact (bools_set HR5.out c).alloc _, by first | exact (HB5.out.alloc hsz5 _).setCell (Nat.le_refl _) _ | exact (HB5.out.setCell (Nat.le_refl _) _).alloc (by simp; exact hsz5) _⟩
                case measure => simp [intOf]; omega
              · have HM6 : Hid (Sp.Mid (pl L) no f0 f5 k (j + 1)) := HM5.out.skip HEJ.out (fun h1 h2 => by rw [HPL.out]; exact Int.not_lt.1 (fun h => hset ⟨h1, h2, h⟩))
                cases hfk : f5 k with
                | false =>
                  rw [hfk] at q1
                  clear hfk hset
                  go_wp2
                  go_roundw
                  case rel => exact ⟨j + 1, _, by omega, by go_num, HM6.out, HR5.out.alloc _, HB5.out.alloc hsz5 _⟩
                  case measure => simp [intOf]; omega
                | true =>
                  rw [hfk] at q1
                  by_cases hs2 : 0 ≤ no2
                  · have hs3 : ¬ no2 < (n : Int) := fun h => hset ⟨hfk, hs2, h⟩
                    clear hfk hset
                    go_wp2
                    go_roundw
                    case rel => exact ⟨j + 1, _, by omega, by go_num, HM6.out, HR5.out.alloc _, HB5.out.alloc hsz5 _⟩
                    case measure => simp [intOf]; omega
                  · clear hfk hset
                    go_wp2
                    go_roundw
                    case rel => exact ⟨j + 1, _, by omega, by go_num, HM6.out, HR5.out.alloc _, HB5.out.alloc hsz5 _⟩
                    case measure => simp [intOf]; omega
            · obtain rfl : m = j := by omega
              have HM6 : Hid (Sp.Mid (pl L) no f0 f5 (k + 1) 0) := HM5.out.next (by rw [HEA.out, HM.out]; exact Nat.le_refl _)
              go_wp2
              go_roundw
              case rel => exact ⟨k + 1, _, by omega, by go_num, HM6.out, HR5.out, HB5.out⟩
              case measure => simp [intOf]; omega
        · obtain rfl : n = k := by omega
          have HF6 : Hid (Sp.Sound (pl L) no f ∧ Sp.Full (pl L) no (r + 1) f) := ⟨HM0.out.sound, Sp.Mid.done (by rw [HPL.out]; exact HM0.out) HF0.out.2⟩
          go_wp2
          go_roundw
          case rel => exact ⟨r + 1, _, by omega, by go_num, HF6.out, HR4.out, HB4.out⟩
          case measure => simp [intOf]; omega
    · obtain rfl : n = r := by omega
      go_wp2
      go_ret
      rw [HBB.out]
      exact ⟨rfl, HB3.out, f0, HR3.out, HF0.out.1, HF0.out.2⟩
end Go.Proofs.YtacghcoikekfeaaGreat
