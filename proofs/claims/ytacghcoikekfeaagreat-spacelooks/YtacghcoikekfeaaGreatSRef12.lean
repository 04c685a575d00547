/-
  sextonref11.Make, over what its Right answers.
-/
import Derived.Test.YtacghcoikekfeaaGreatSRef11
import Derived.Test.YtacghcoikekfeaaGreatSp19
import Derived.Test.YtacghcoikekfeaaGreatRefM
namespace Go.Proofs.YtacghcoikekfeaaGreat
open Go.ChangeShapes Go.WideShapes Go.ChangeAt Go.RowKit Go.Deep It
set_option maxRecDepth 100000
/-- A list of things with texts does not lie in a box of two numbers. -/
theorem At.off_box {α : Type} {E : Enc α} {S : Nat → Prop} {w : World} {v : Value} {l : List α} {z : Nat} {p q : Int} (h : At E S w v l) (hz : w.heap[z]? = some (BH p q)) (k : Nat) (hk : ∀ x, ∃ s, (E.cells x)[k]? = some (.string s)) : At E (fun b => b ≠ z) w v l := by
  rcases h with h | ⟨b, off, cap, rfl, hS, hb, hp, hc, hm, hx⟩
  · exact .inl h
  · refine .inr ⟨b, off, cap, rfl, ?_, hb, hp, hc, hm, hx⟩
    rintro rfl
    obtain ⟨s, hs⟩ := hk l[0]
    have h1 := hx _ _ (E.flat_at l 0 l[0] (List.getElem?_eq_getElem hp) k _ hs)
    generalize off + (0 * E.sz + k) = i at h1
    simp only [World.cell?, hz] at h1
    rcases i with _ | _ | i <;> simp at h1
theorem Good.off_box {S : Nat → Prop} {w : World} {x : Rw} {z : Nat} {p q : Int} (h : Good S w x) (hz : w.heap[z]? = some (BH p q)) : Good (fun b => b ≠ z) w x :=
  ⟨h.1.off_box hz 1 fun y => ⟨y.2, rfl⟩, h.2.1.off_box hz 0 fun y => ⟨y.1, rfl⟩, h.2.2⟩
theorem Cp.off {T : Nat → Prop} {B : Nat} {w : World} {g n cap z : Nat} {p q : Int} {L : List Rw} (h : Cp T B w g n cap L) (hb : z < B) (hz : w.heap[z]? = some (BH p q)) : TabAt (fun b => b ≠ z) w (.slice (some ⟨g, 0, none⟩) n cap) L :=
  ⟨h.1.at.imp fun b hb _ => by omega, fun y hy => (h.2 y hy).off_box hz⟩
set_option maxHeartbeats 8000000 in
theorem rmakes_any {R : List Ino → Bool} (hR : RtSaid R) (hM : Sp.ChkMeans (Sp.chk R)) {S : Nat → Prop} (v : Value) (L : List Rw) (a b : Int) (s : ByteArray) (kind st : Int) (w : World) (hv : TabAt S w v L) (hok : Sp.okN L) (hs : s.size ≤ maxLen) :
    Calls Tryz.prog 18 #[v, .agg #[.int .i64 a, .int .i64 b], .string s, .int .i64 kind, .int .i64 st] w fun e w' =>
      ∃ u L', e = .returned (.tuple #[u, .agg #[.int .i64 (Sp.mkH (Sp.chk R) (pl L) a b s kind st).1, .int .i64 (Sp.mkH (Sp.chk R) (pl L) a b s kind st).2], .int .i64 (Sp.mkE (Sp.chk R) (pl L) a b s kind st)]) ∧ TabW w' u L' ∧ pl L' = Sp.mkT (Sp.chk R) (pl L) a b s kind st ∧ Below w.heap.size w w' := by
  obtain ⟨W, hW⟩ : ∃ W, W = (w.alloc (BH a b)).alloc (BH 0 0) := ⟨_, rfl⟩
  have HB0 : Hid (Below w.heap.size w W) := by show Below w.heap.size w W; rw [hW]; exact ((Below.refl _ w).alloc (Nat.le_refl _) _).alloc (by simp) _
  have HA0 : Hid (W.heap[w.heap.size]? = some (BH a b) ∧ W.heap[w.heap.size + 1]? = some (BH 0 0)) := by
    rw [hW]
    refine ⟨(Below.heap_alloc _ _ _ (by simp)).trans (heap_alloc_new _ _), ?_⟩
    have := heap_alloc_new (w.alloc (BH a b)) (BH 0 0)
    rwa [show (w.alloc (BH a b)).heap.size = w.heap.size + 1 by simp] at this
  have hws0 : w.heap.size + 1 < W.heap.size := by rw [hW]; simp
  have HV : Hid (TabAt S W v L) := hv.up HB0.out
  have HVW : Hid (∀ V, Below w.heap.size w V → TabAt S V v L) := fun V h => hv.up h
  obtain ⟨ao, cap, rfl, hm, hx⟩ := hv.open
  have HOK : Hid (Sp.okN L) := hok
  have HSM : Hid (s.size ≤ maxLen) := hs
  have HRR : Hid (RtSaid R) := hR
  have hno : ∀ e, Sp.makeErr (Sp.chk R) (pl L) a b s kind st = e → e ≠ 0 → Sp.mkE (Sp.chk R) (pl L) a b s kind st = e ∧ Sp.mkT (Sp.chk R) (pl L) a b s kind st = [] ∧ Sp.mkH (Sp.chk R) (pl L) a b s kind st = (0, 0) := fun e h h0 => by
    have h1 : Sp.mkE (Sp.chk R) (pl L) a b s kind st = e := by unfold Sp.mkE; rw [if_neg (by rw [h]; exact h0), h]
    exact ⟨h1, by unfold Sp.mkT; rw [if_neg (by rw [h1]; exact h0)], by unfold Sp.mkH; rw [if_neg (by rw [h1]; exact h0)]⟩
  clear hv hok hs hR hx hm
  by_cases hse : Sp.stErr (Sp.chk R) (pl L) st = 0
  · have HSE : Hid (Sp.stErr (Sp.chk R) (pl L) st = 0) := hse
    obtain ⟨hc0, hst1, hst2⟩ := Sp.stErr_zero hse
    obtain ⟨hr, -, hlen, -⟩ := hM _ hc0
    have HRT : Hid (It.right (pl L) = true) := hr
    by_cases hk : kind = 1 ∨ kind = 2
    · have hkk : ((kind != 1) = false) ∨ ((kind != 1) = true ∧ (kind != 2) = false) := by
        rcases hk with rfl | rfl
        · exact .inl rfl
        · exact .inr ⟨rfl, rfl⟩
      obtain ⟨ne, hne⟩ : ∃ ne, Sp.nameErr (pl L) a b s = ne := ⟨_, rfl⟩
      have HNE : Hid (Sp.nameErr (pl L) a b s = ne) := hne
      have hle : Sp.makeErr (Sp.chk R) (pl L) a b s kind st = ne := by unfold Sp.makeErr; rw [if_pos hse, if_pos hk, hne]
      obtain ⟨me, hme⟩ : ∃ me, It.makeErr (pl L) kind st = me := ⟨_, rfl⟩
      obtain ⟨q1, q2, hq⟩ : ∃ q1 q2, makeH (pl L) kind st = (q1, q2) := ⟨_, _, rfl⟩
      have HMH : Hid (makeH (pl L) kind st = (q1, q2) ∧ It.makeErr (pl L) kind st = me) := ⟨hq, hme⟩
      by_cases hn0 : ne = 0
      · subst hn0
        obtain ⟨kc, xc, rfl, hxc, hgc, hkc, hde, hdn, hfc, -⟩ := Sp.dir_get (Sp.nameErr_zero hne).1
        obtain ⟨yc, hyc, rfl⟩ := Sp.pl_some hxc
        by_cases hm0 : me = 0
        · subst hm0
          have hE : Sp.mkE (Sp.chk R) (pl L) kc b s kind st = Fo.addErr yc.i.ents yc.i.next s q1 q2 := by unfold Sp.mkE; rw [if_pos hle, if_pos hme, hde, hdn, hq]
          have hicd : findI (pl L) kc b = yc.i := by
            obtain ⟨k', x', h1, h2, -, -, h3, -⟩ := Sp.find_get hfc
            obtain rfl : kc = k' := by omega
            rw [hxc] at h2
            rw [h3]
            exact (Option.some.inj h2).symm
          obtain ⟨hr1, hkeep⟩ := Sp.make_keep hme
          have hx1 := hkeep kc yc.i hxc (by omega)
          have hlenc := hlen yc.i (List.mem_of_getElem? hxc)
          have HYC : Hid ((∀ e ∈ yc.i.ents, e.1.size ≤ maxLen) ∧ (makeTab (pl L) kind st)[kc]? = some yc.i ∧ (makeTab (pl L) kind st).length ≤ 24) := ⟨HOK.out yc (List.mem_of_getElem? hyc), hx1, (Sp.right_len hr1).2⟩
          by_cases hae : Fo.addErr yc.i.ents yc.i.next s q1 q2 = 0
          · have hT : Sp.mkT (Sp.chk R) (pl L) kc b s kind st = (makeTab (pl L) kind st).set kc (Sp.filled yc.i (yc.i.ents ++ [(s, yc.i.next + 1, q1, q2)]) (yc.i.next + 1) st) := by
              unfold Sp.mkT
              rw [hE, if_pos hae, hicd, hq]
              rfl
            have hH : Sp.mkH (Sp.chk R) (pl L) kc b s kind st = (q1, q2) := by unfold Sp.mkH; rw [hE, if_pos hae, hq]
            rw [hE, hT, hH, hae]
            have HAE : Hid (Fo.addErr yc.i.ents yc.i.next s q1 q2 = 0) := hae
            clear hno hse hc0 hst1 hst2 hr hlen hk hne hle hme hq hxc hgc hkc hde hdn hfc hyc hE hicd hr1 hkeep hx1 hae hT hH hM
            rcases hkk with h1 | ⟨h1, h2⟩
            all_goals
              go_enter Tryz.func18, Tryz.ntmps18
              go_wp2_with fail
              rw [← hW]
              refine (rasked_any HRR.out _ L st _ HV.out HOK.out).mono ?_
              rintro e w1 ⟨rfl, hb1⟩
              rw [HSE.out]
              have HB1 : Hid (Below w.heap.size w w1) := HB0.out.trans (hb1.mono HB0.out.size)
              have HA1 : Hid (w1.heap[w.heap.size]? = some (BH kc b) ∧ w1.heap[w.heap.size + 1]? = some (BH 0 0)) := ⟨(hb1.block _ (by omega)).trans HA0.out.1, (hb1.block _ hws0).trans HA0.out.2⟩
              have hws1 : w.heap.size + 1 < w1.heap.size := (Array.getElem?_eq_some_iff.1 HA1.out.2).1
              clear hb1
              clear hW
              obtain ⟨⟨z0, z1⟩, zf⟩ := two_of HA1.out.2
              obtain ⟨⟨a0, a1⟩, _⟩ := two_of HA1.out.1
              go_wp2_with fail
              clear a0 a1 z0 z1 zf
              refine (rfree_any _ L kc b s _ (HVW.out _ HB1.out) HOK.out HSM.out HRT.out).mono ?_
              rintro e w2 ⟨rfl, hb2⟩
              rw [HNE.out]
              have HB2 : Hid (Below w.heap.size w w2) := HB1.out.trans (hb2.mono HB1.out.size)
              have HA2 : Hid (w2.heap[w.heap.size]? = some (BH kc b) ∧ w2.heap[w.heap.size + 1]? = some (BH 0 0)) := ⟨(hb2.block _ (by omega)).trans HA1.out.1, (hb2.block _ hws1).trans HA1.out.2⟩
              have hws2 : w.heap.size + 1 < w2.heap.size := (Array.getElem?_eq_some_iff.1 HA2.out.2).1
              clear hb2
              obtain ⟨⟨z0, z1⟩, zf⟩ := two_of HA2.out.2
              go_wp2_with fail
              clear z0 z1 zf
              refine (rmake_any _ L kind st _ (HVW.out _ HB2.out)).mono ?_
              rintro e w3 ⟨u3, L3, rfl, ht3, hp3, hb3⟩
              rw [HMH.out.1, HMH.out.2]
              have HB3 : Hid (Below w.heap.size w w3) := HB2.out.trans (hb3.mono HB2.out.size)
              have HA3 : Hid (w3.heap[w.heap.size]? = some (BH kc b) ∧ w3.heap[w.heap.size + 1]? = some (BH 0 0)) := ⟨(hb3.block _ (by omega)).trans HA2.out.1, (hb3.block _ hws2).trans HA2.out.2⟩
              have hws3 : w.heap.size + 1 < w3.heap.size := (Array.getElem?_eq_some_iff.1 HA3.out.2).1
              clear hb3
              obtain ⟨W3, hW3⟩ : ∃ W3, W3 = w3.alloc (BH q1 q2) := ⟨_, rfl⟩
              have HB4 : Hid (Below w.heap.size w W3) := by show Below w.heap.size w W3; rw [hW3]; exact HB3.out.alloc HB3.out.size _
              have HA4 : Hid (W3.heap[w.heap.size]? = some (BH kc b) ∧ W3.heap[w.heap.size + 1]? = some (BH 0 0) ∧ W3.heap[w3.heap.size]? = some (BH q1 q2)) := by
                rw [hW3]
                exact ⟨(Below.heap_alloc _ _ _ (by omega)).trans HA3.out.1, (Below.heap_alloc _ _ _ hws3).trans HA3.out.2, heap_alloc_new _ _⟩
              have hws4 : w.heap.size + 1 < W3.heap.size := (Array.getElem?_eq_some_iff.1 HA4.out.2.1).1
              have hwh4 : w3.heap.size < W3.heap.size := (Array.getElem?_eq_some_iff.1 HA4.out.2.2).1
              have HT4 : Hid (TabW W3 u3 L3) := by show TabW W3 u3 L3; rw [hW3]; exact ht3.up ((Below.refl _ _).alloc (Nat.le_refl _) _)
              have HP3 : Hid (pl L3 = makeTab (pl L) kind st) := hp3
              obtain ⟨ao3, cap3, rfl, -, -⟩ := ht3.open
              clear ht3 hp3
              obtain ⟨⟨z0, z1⟩, zf⟩ := two_of HA3.out.2
              obtain ⟨⟨a0, a1⟩, _⟩ := two_of HA3.out.1
              have hwa3 : w.heap.size < w3.heap.size := by omega
              go_wp2_with fail
              rw [← hW3]
              clear a0 a1 z0 z1 zf hW3
              obtain ⟨y3, hy3, hyi⟩ := Sp.pl_some (L := L3) (k := kc) (x := yc.i) (by rw [HP3.out]; exact HYC.out.2.1)
              have hl3 : L3.length ≤ 24 := by have := HYC.out.2.2; rw [← HP3.out, List.length_map] at this; exact this
              refine (rmore_any _ L3 kc q1 q2 st s y3 _ HT4.out hy3 (by rw [hyi]; exact HYC.out.1) HSM.out (by rw [hyi]; exact HAE.out) (by omega) (by rw [hyi]; omega)).mono ?_
              rintro e w5 ⟨g5, cap5, L5, rfl, hcp, hp5, hb5⟩
              rw [hyi, HP3.out] at hp5
              have HB5 : Hid (Below w.heap.size w w5) := HB4.out.trans (hb5.mono HB4.out.size)
              have HA5 : Hid (w5.heap[w.heap.size + 1]? = some (BH 0 0) ∧ w5.heap[w3.heap.size]? = some (BH q1 q2)) := ⟨(hb5.block _ hws4).trans HA4.out.2.1, (hb5.block _ hwh4).trans HA4.out.2.2⟩
              obtain ⟨⟨z0, z1⟩, zf⟩ := two_of HA5.out.1
              obtain ⟨⟨e0, e1⟩, _⟩ := two_of HA5.out.2
              have hgy : w3.heap.size ≠ w.heap.size + 1 := by omega
              have HC5 : Hid (TabAt (fun b => b ≠ w.heap.size + 1) w5 (.slice (some ⟨g5, 0, none⟩) L3.length cap5) L5) := hcp.off hws4 HA5.out.1
              have HP5 : Hid (pl L5 = (makeTab (pl L) kind st).set kc (Sp.filled yc.i (yc.i.ents ++ [(s, yc.i.next + 1, q1, q2)]) (yc.i.next + 1) st)) := hp5
              clear hb5 hcp hp5 hy3 hyi
              go_wp2_with fail
              go_region
              all_goals
                go_wp2
                have ht := tab_set (tab_set HC5.out 0 (.int .i64 q1)) 1 (.int .i64 q2)
                have hbe := HB5.out
                have hbl : Below w.heap.size w ((w5.setCell ⟨w.heap.size + 1, 0, none⟩ (.int .i64 q1)).setCell ⟨w.heap.size + 1, 1, none⟩ (.int .i64 q2)) := by
                  (repeat (with_reducible refine Below.setCell ?_ (by simp) _)); exact hbe
                (try simp only [Exit.inBlock, Exit.then])
                refine bodyPost_ret (v := .tuple #[.slice (some ⟨g5, 0, none⟩) L3.length cap5, .agg #[.int .i64 q1, .int .i64 q2], .int .i64 0]) ?_ rfl ?_
                · rw [results_tct rfl]
                  go_simp
                · first
                    | exact ⟨_, rfl, L5, tab_wide (tab_drew ht), HP5.out, bel_drew hbl⟩
                    | exact ⟨_, L5, rfl, tab_wide (tab_drew ht), HP5.out, bel_drew hbl⟩
          · have hT : Sp.mkT (Sp.chk R) (pl L) kc b s kind st = [] := by unfold Sp.mkT; rw [hE, if_neg hae]
            have hH : Sp.mkH (Sp.chk R) (pl L) kc b s kind st = (0, 0) := by unfold Sp.mkH; rw [hE, if_neg hae]
            obtain ⟨ae, hae2⟩ : ∃ ae, Fo.addErr yc.i.ents yc.i.next s q1 q2 = ae := ⟨_, rfl⟩
            have HAE : Hid (Fo.addErr yc.i.ents yc.i.next s q1 q2 = ae ∧ ¬ Fo.addErr yc.i.ents yc.i.next s q1 q2 = 0) := ⟨hae2, hae⟩
            rw [hE, hT, hH, hae2]
            rw [hae2] at hae
            have hz' : (ae != 0) = true := by simpa using hae
            clear hno hse hc0 hst1 hst2 hr hlen hk hne hle hme hq hxc hgc hkc hde hdn hfc hyc hE hicd hr1 hkeep hx1 hae hT hH hM hae2
            rcases hkk with h1 | ⟨h1, h2⟩
            all_goals
              go_enter Tryz.func18, Tryz.ntmps18
              go_wp2_with fail
              rw [← hW]
              refine (rasked_any HRR.out _ L st _ HV.out HOK.out).mono ?_
              rintro e w1 ⟨rfl, hb1⟩
              rw [HSE.out]
              have HB1 : Hid (Below w.heap.size w w1) := HB0.out.trans (hb1.mono HB0.out.size)
              have HA1 : Hid (w1.heap[w.heap.size]? = some (BH kc b) ∧ w1.heap[w.heap.size + 1]? = some (BH 0 0)) := ⟨(hb1.block _ (by omega)).trans HA0.out.1, (hb1.block _ hws0).trans HA0.out.2⟩
              have hws1 : w.heap.size + 1 < w1.heap.size := (Array.getElem?_eq_some_iff.1 HA1.out.2).1
              clear hb1
              clear hW
              obtain ⟨⟨z0, z1⟩, zf⟩ := two_of HA1.out.2
              obtain ⟨⟨a0, a1⟩, _⟩ := two_of HA1.out.1
              go_wp2_with fail
              clear a0 a1 z0 z1 zf
              refine (rfree_any _ L kc b s _ (HVW.out _ HB1.out) HOK.out HSM.out HRT.out).mono ?_
              rintro e w2 ⟨rfl, hb2⟩
              rw [HNE.out]
              have HB2 : Hid (Below w.heap.size w w2) := HB1.out.trans (hb2.mono HB1.out.size)
              have HA2 : Hid (w2.heap[w.heap.size]? = some (BH kc b) ∧ w2.heap[w.heap.size + 1]? = some (BH 0 0)) := ⟨(hb2.block _ (by omega)).trans HA1.out.1, (hb2.block _ hws1).trans HA1.out.2⟩
              have hws2 : w.heap.size + 1 < w2.heap.size := (Array.getElem?_eq_some_iff.1 HA2.out.2).1
              clear hb2
              obtain ⟨⟨z0, z1⟩, zf⟩ := two_of HA2.out.2
              go_wp2_with fail
              clear z0 z1 zf
              refine (rmake_any _ L kind st _ (HVW.out _ HB2.out)).mono ?_
              rintro e w3 ⟨u3, L3, rfl, ht3, hp3, hb3⟩
              rw [HMH.out.1, HMH.out.2]
              have HB3 : Hid (Below w.heap.size w w3) := HB2.out.trans (hb3.mono HB2.out.size)
              have HA3 : Hid (w3.heap[w.heap.size]? = some (BH kc b) ∧ w3.heap[w.heap.size + 1]? = some (BH 0 0)) := ⟨(hb3.block _ (by omega)).trans HA2.out.1, (hb3.block _ hws2).trans HA2.out.2⟩
              have hws3 : w.heap.size + 1 < w3.heap.size := (Array.getElem?_eq_some_iff.1 HA3.out.2).1
              clear hb3
              obtain ⟨W3, hW3⟩ : ∃ W3, W3 = w3.alloc (BH q1 q2) := ⟨_, rfl⟩
              have HB4 : Hid (Below w.heap.size w W3) := by show Below w.heap.size w W3; rw [hW3]; exact HB3.out.alloc HB3.out.size _
              have HA4 : Hid (W3.heap[w.heap.size]? = some (BH kc b) ∧ W3.heap[w.heap.size + 1]? = some (BH 0 0) ∧ W3.heap[w3.heap.size]? = some (BH q1 q2)) := by
                rw [hW3]
                exact ⟨(Below.heap_alloc _ _ _ (by omega)).trans HA3.out.1, (Below.heap_alloc _ _ _ hws3).trans HA3.out.2, heap_alloc_new _ _⟩
              have hws4 : w.heap.size + 1 < W3.heap.size := (Array.getElem?_eq_some_iff.1 HA4.out.2.1).1
              have hwh4 : w3.heap.size < W3.heap.size := (Array.getElem?_eq_some_iff.1 HA4.out.2.2).1
              have HT4 : Hid (TabW W3 u3 L3) := by show TabW W3 u3 L3; rw [hW3]; exact ht3.up ((Below.refl _ _).alloc (Nat.le_refl _) _)
              have HP3 : Hid (pl L3 = makeTab (pl L) kind st) := hp3
              obtain ⟨ao3, cap3, rfl, -, -⟩ := ht3.open
              clear ht3 hp3
              obtain ⟨⟨z0, z1⟩, zf⟩ := two_of HA3.out.2
              obtain ⟨⟨a0, a1⟩, _⟩ := two_of HA3.out.1
              have hwa3 : w.heap.size < w3.heap.size := by omega
              go_wp2_with fail
              rw [← hW3]
              clear a0 a1 z0 z1 zf hW3
              obtain ⟨y3, hy3, hyi⟩ := Sp.pl_some (L := L3) (k := kc) (x := yc.i) (by rw [HP3.out]; exact HYC.out.2.1)
              refine (rmore_no _ L3 kc q1 q2 st s y3 _ HT4.out hy3 (by rw [hyi]; exact HYC.out.1) HSM.out (by rw [hyi]; exact HAE.out.2)).mono ?_
              rintro e w5 ⟨rfl, hb5⟩
              rw [hyi, HAE.out.1]
              have HB5 : Hid (Below w.heap.size w w5) := HB4.out.trans (hb5.mono HB4.out.size)
              have HA5 : Hid (w5.heap[w.heap.size + 1]? = some (BH 0 0)) := (hb5.block _ hws4).trans HA4.out.2.1
              obtain ⟨⟨z0, z1⟩, zf⟩ := two_of HA5.out
              clear hb5 hy3 hyi
              go_wp2
              have hbe := HB5.out
              (try simp only [Exit.inBlock, Exit.then])
              refine bodyPost_ret (v := .tuple #[.slice none 0 0, .agg #[.int .i64 0, .int .i64 0], .int .i64 ae]) ?_ rfl ?_
              · rw [results_tct rfl]
                go_simp
              · first
                  | exact ⟨_, rfl, [], tab_nil _ _, rfl, (by repeat (first | exact hbe | refine Below.setCell ?_ (by simp) _ | refine Below.alloc ?_ (by simp; exact hbe.size) _))⟩
                  | exact ⟨_, [], rfl, tab_nil _ _, rfl, (by repeat (first | exact hbe | refine Below.setCell ?_ (by simp) _ | refine Below.alloc ?_ (by simp; exact hbe.size) _))⟩
        · have hE : Sp.mkE (Sp.chk R) (pl L) kc b s kind st = me := by unfold Sp.mkE; rw [if_pos hle, if_neg (by rw [hme]; exact hm0), hme]
          have hT : Sp.mkT (Sp.chk R) (pl L) kc b s kind st = [] := by unfold Sp.mkT; rw [hE, if_neg hm0]
          have hH : Sp.mkH (Sp.chk R) (pl L) kc b s kind st = (0, 0) := by unfold Sp.mkH; rw [hE, if_neg hm0]
          rw [hE, hT, hH]
          have hz' : (me != 0) = true := by simpa using hm0
          clear hno hse hc0 hst1 hst2 hr hlen hk hne hle hme hq hxc hgc hkc hde hdn hfc hyc hE hT hH hM hm0
          rcases hkk with h1 | ⟨h1, h2⟩
          all_goals
            go_enter Tryz.func18, Tryz.ntmps18
            go_wp2_with fail
            rw [← hW]
            refine (rasked_any HRR.out _ L st _ HV.out HOK.out).mono ?_
            rintro e w1 ⟨rfl, hb1⟩
            rw [HSE.out]
            have HB1 : Hid (Below w.heap.size w w1) := HB0.out.trans (hb1.mono HB0.out.size)
            have HA1 : Hid (w1.heap[w.heap.size]? = some (BH kc b) ∧ w1.heap[w.heap.size + 1]? = some (BH 0 0)) := ⟨(hb1.block _ (by omega)).trans HA0.out.1, (hb1.block _ hws0).trans HA0.out.2⟩
            have hws1 : w.heap.size + 1 < w1.heap.size := (Array.getElem?_eq_some_iff.1 HA1.out.2).1
            clear hb1
            clear hW
            obtain ⟨⟨z0, z1⟩, zf⟩ := two_of HA1.out.2
            obtain ⟨⟨a0, a1⟩, _⟩ := two_of HA1.out.1
            go_wp2_with fail
            clear a0 a1 z0 z1 zf
            refine (rfree_any _ L kc b s _ (HVW.out _ HB1.out) HOK.out HSM.out HRT.out).mono ?_
            rintro e w2 ⟨rfl, hb2⟩
            rw [HNE.out]
            have HB2 : Hid (Below w.heap.size w w2) := HB1.out.trans (hb2.mono HB1.out.size)
            have HA2 : Hid (w2.heap[w.heap.size]? = some (BH kc b) ∧ w2.heap[w.heap.size + 1]? = some (BH 0 0)) := ⟨(hb2.block _ (by omega)).trans HA1.out.1, (hb2.block _ hws1).trans HA1.out.2⟩
            have hws2 : w.heap.size + 1 < w2.heap.size := (Array.getElem?_eq_some_iff.1 HA2.out.2).1
            clear hb2
            obtain ⟨⟨z0, z1⟩, zf⟩ := two_of HA2.out.2
            go_wp2_with fail
            clear z0 z1 zf
            refine (rmake_any _ L kind st _ (HVW.out _ HB2.out)).mono ?_
            rintro e w3 ⟨u3, L3, rfl, ht3, hp3, hb3⟩
            rw [HMH.out.1, HMH.out.2]
            have HB3 : Hid (Below w.heap.size w w3) := HB2.out.trans (hb3.mono HB2.out.size)
            have HA3 : Hid (w3.heap[w.heap.size]? = some (BH kc b) ∧ w3.heap[w.heap.size + 1]? = some (BH 0 0)) := ⟨(hb3.block _ (by omega)).trans HA2.out.1, (hb3.block _ hws2).trans HA2.out.2⟩
            have hws3 : w.heap.size + 1 < w3.heap.size := (Array.getElem?_eq_some_iff.1 HA3.out.2).1
            clear hb3
            obtain ⟨W3, hW3⟩ : ∃ W3, W3 = w3.alloc (BH q1 q2) := ⟨_, rfl⟩
            have HB4 : Hid (Below w.heap.size w W3) := by show Below w.heap.size w W3; rw [hW3]; exact HB3.out.alloc HB3.out.size _
            have HA4 : Hid (W3.heap[w.heap.size]? = some (BH kc b) ∧ W3.heap[w.heap.size + 1]? = some (BH 0 0) ∧ W3.heap[w3.heap.size]? = some (BH q1 q2)) := by
              rw [hW3]
              exact ⟨(Below.heap_alloc _ _ _ (by omega)).trans HA3.out.1, (Below.heap_alloc _ _ _ hws3).trans HA3.out.2, heap_alloc_new _ _⟩
            have hws4 : w.heap.size + 1 < W3.heap.size := (Array.getElem?_eq_some_iff.1 HA4.out.2.1).1
            have hwh4 : w3.heap.size < W3.heap.size := (Array.getElem?_eq_some_iff.1 HA4.out.2.2).1
            have HT4 : Hid (TabW W3 u3 L3) := by show TabW W3 u3 L3; rw [hW3]; exact ht3.up ((Below.refl _ _).alloc (Nat.le_refl _) _)
            have HP3 : Hid (pl L3 = makeTab (pl L) kind st) := hp3
            obtain ⟨ao3, cap3, rfl, -, -⟩ := ht3.open
            clear ht3 hp3
            obtain ⟨⟨z0, z1⟩, zf⟩ := two_of HA3.out.2
            go_wp2
            have hbe := HB3.out
            (try simp only [Exit.inBlock, Exit.then])
            refine bodyPost_ret (v := .tuple #[.slice none 0 0, .agg #[.int .i64 0, .int .i64 0], .int .i64 me]) ?_ rfl ?_
            · rw [results_tct rfl]
              go_simp
            · first
                | exact ⟨_, rfl, [], tab_nil _ _, rfl, (by repeat (first | exact hbe | refine Below.setCell ?_ (by simp) _ | refine Below.alloc ?_ (by simp; exact hbe.size) _))⟩
                | exact ⟨_, [], rfl, tab_nil _ _, rfl, (by repeat (first | exact hbe | refine Below.setCell ?_ (by simp) _ | refine Below.alloc ?_ (by simp; exact hbe.size) _))⟩
      · obtain ⟨hE, hT, hH⟩ := hno ne hle hn0
        rw [hE, hT, hH]
        have hz' : (ne != 0) = true := by simpa using hn0
        clear hno hse hc0 hst1 hst2 hr hlen hk hne hle hme hq hE hT hH hM hn0
        rcases hkk with h1 | ⟨h1, h2⟩
        all_goals
          go_enter Tryz.func18, Tryz.ntmps18
          go_wp2_with fail
          rw [← hW]
          refine (rasked_any HRR.out _ L st _ HV.out HOK.out).mono ?_
          rintro e w1 ⟨rfl, hb1⟩
          rw [HSE.out]
          have HB1 : Hid (Below w.heap.size w w1) := HB0.out.trans (hb1.mono HB0.out.size)
          have HA1 : Hid (w1.heap[w.heap.size]? = some (BH a b) ∧ w1.heap[w.heap.size + 1]? = some (BH 0 0)) := ⟨(hb1.block _ (by omega)).trans HA0.out.1, (hb1.block _ hws0).trans HA0.out.2⟩
          have hws1 : w.heap.size + 1 < w1.heap.size := (Array.getElem?_eq_some_iff.1 HA1.out.2).1
          clear hb1
          clear hW
          obtain ⟨⟨z0, z1⟩, zf⟩ := two_of HA1.out.2
          obtain ⟨⟨a0, a1⟩, _⟩ := two_of HA1.out.1
          go_wp2_with fail
          clear a0 a1 z0 z1 zf
          refine (rfree_any _ L a b s _ (HVW.out _ HB1.out) HOK.out HSM.out HRT.out).mono ?_
          rintro e w2 ⟨rfl, hb2⟩
          rw [HNE.out]
          have HB2 : Hid (Below w.heap.size w w2) := HB1.out.trans (hb2.mono HB1.out.size)
          have HA2 : Hid (w2.heap[w.heap.size]? = some (BH a b) ∧ w2.heap[w.heap.size + 1]? = some (BH 0 0)) := ⟨(hb2.block _ (by omega)).trans HA1.out.1, (hb2.block _ hws1).trans HA1.out.2⟩
          have hws2 : w.heap.size + 1 < w2.heap.size := (Array.getElem?_eq_some_iff.1 HA2.out.2).1
          clear hb2
          obtain ⟨⟨z0, z1⟩, zf⟩ := two_of HA2.out.2
          go_wp2
          have hbe := HB2.out
          (try simp only [Exit.inBlock, Exit.then])
          refine bodyPost_ret (v := .tuple #[.slice none 0 0, .agg #[.int .i64 0, .int .i64 0], .int .i64 ne]) ?_ rfl ?_
          · rw [results_tct rfl]
            go_simp
          · first
              | exact ⟨_, rfl, [], tab_nil _ _, rfl, (by repeat (first | exact hbe | refine Below.setCell ?_ (by simp) _ | refine Below.alloc ?_ (by simp; exact hbe.size) _))⟩
              | exact ⟨_, [], rfl, tab_nil _ _, rfl, (by repeat (first | exact hbe | refine Below.setCell ?_ (by simp) _ | refine Below.alloc ?_ (by simp; exact hbe.size) _))⟩
    · obtain ⟨hE, hT, hH⟩ := hno 1 (by unfold Sp.makeErr; rw [if_pos hse, if_neg hk]) (by decide)
      rw [hE, hT, hH]
      have h1 : (kind != 1) = true := by simp; omega
      have h2 : (kind != 2) = true := by simp; omega
      clear hno hse hc0 hst1 hst2 hr hlen hk hE hT hH hM
      go_enter Tryz.func18, Tryz.ntmps18
      go_wp2_with fail
      rw [← hW]
      refine (rasked_any HRR.out _ L st _ HV.out HOK.out).mono ?_
      rintro e w1 ⟨rfl, hb1⟩
      rw [HSE.out]
      have HB1 : Hid (Below w.heap.size w w1) := HB0.out.trans (hb1.mono HB0.out.size)
      have HA1 : Hid (w1.heap[w.heap.size]? = some (BH a b) ∧ w1.heap[w.heap.size + 1]? = some (BH 0 0)) := ⟨(hb1.block _ (by omega)).trans HA0.out.1, (hb1.block _ hws0).trans HA0.out.2⟩
      have hws1 : w.heap.size + 1 < w1.heap.size := (Array.getElem?_eq_some_iff.1 HA1.out.2).1
      clear hb1
      clear hW
      obtain ⟨⟨z0, z1⟩, zf⟩ := two_of HA1.out.2
      go_wp2
      have hbe := HB1.out
      (try simp only [Exit.inBlock, Exit.then])
      refine bodyPost_ret (v := .tuple #[.slice none 0 0, .agg #[.int .i64 0, .int .i64 0], .int .i64 1]) ?_ rfl ?_
      · rw [results_tct rfl]
        go_simp
      · first
          | exact ⟨_, rfl, [], tab_nil _ _, rfl, (by repeat (first | exact hbe | refine Below.setCell ?_ (by simp) _ | refine Below.alloc ?_ (by simp; exact hbe.size) _))⟩
          | exact ⟨_, [], rfl, tab_nil _ _, rfl, (by repeat (first | exact hbe | refine Below.setCell ?_ (by simp) _ | refine Below.alloc ?_ (by simp; exact hbe.size) _))⟩
  · obtain ⟨se, hse'⟩ : ∃ se, Sp.stErr (Sp.chk R) (pl L) st = se := ⟨_, rfl⟩
    have HSE : Hid (Sp.stErr (Sp.chk R) (pl L) st = se) := hse'
    obtain ⟨hE, hT, hH⟩ := hno se (by unfold Sp.makeErr; rw [if_neg hse, hse']) (by rw [← hse']; exact hse)
    rw [hE, hT, hH]
    rw [hse'] at hse
    have hz' : (se != 0) = true := by simpa using hse
    clear hno hE hT hH hM hse hse'
    go_enter Tryz.func18, Tryz.ntmps18
    go_wp2_with fail
    rw [← hW]
    refine (rasked_any HRR.out _ L st _ HV.out HOK.out).mono ?_
    rintro e w1 ⟨rfl, hb1⟩
    rw [HSE.out]
    have HB1 : Hid (Below w.heap.size w w1) := HB0.out.trans (hb1.mono HB0.out.size)
    have HA1 : Hid (w1.heap[w.heap.size]? = some (BH a b) ∧ w1.heap[w.heap.size + 1]? = some (BH 0 0)) := ⟨(hb1.block _ (by omega)).trans HA0.out.1, (hb1.block _ hws0).trans HA0.out.2⟩
    have hws1 : w.heap.size + 1 < w1.heap.size := (Array.getElem?_eq_some_iff.1 HA1.out.2).1
    clear hb1
    clear hW
    obtain ⟨⟨z0, z1⟩, zf⟩ := two_of HA1.out.2
    go_wp2
    have hbe := HB1.out
    (try simp only [Exit.inBlock, Exit.then])
    refine bodyPost_ret (v := .tuple #[.slice none 0 0, .agg #[.int .i64 0, .int .i64 0], .int .i64 se]) ?_ rfl ?_
    · rw [results_tct rfl]
      go_simp
    · first
        | exact ⟨_, rfl, [], tab_nil _ _, rfl, (by repeat (first | exact hbe | refine Below.setCell ?_ (by simp) _ | refine Below.alloc ?_ (by simp; exact hbe.size) _))⟩
        | exact ⟨_, [], rfl, tab_nil _ _, rfl, (by repeat (first | exact hbe | refine Below.setCell ?_ (by simp) _ | refine Below.alloc ?_ (by simp; exact hbe.size) _))⟩
end Go.Proofs.YtacghcoikekfeaaGreat
