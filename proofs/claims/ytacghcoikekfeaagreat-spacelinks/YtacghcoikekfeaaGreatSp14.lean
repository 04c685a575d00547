/-
  space.Link, over what Check answers.
-/
import Derived.Test.YtacghcoikekfeaaGreatSp13
namespace Go.Proofs.YtacghcoikekfeaaGreat
open Go.ChangeShapes Go.WideShapes Go.ChangeAt Go.RowKit Go.Deep It
set_option maxRecDepth 100000
namespace Sp
/-- What a space is, as far as the changes ask: proved of Check elsewhere. -/
def ChkMeans (C : List Ino → Int) : Prop := ∀ L, C L = 0 → It.right L = true ∧ folds L ∧ (∀ x ∈ L, x.ents.length ≤ 1536) ∧ ∀ x ∈ L, ∀ e ∈ x.ents, findErr L e.2.2.1 e.2.2.2 = 0 ∧ 1 ≤ (findI L e.2.2.1 e.2.2.2).links ∧ e.2.2.1 ≠ 0
theorem stErr_zero {C : List Ino → Int} {L : List Ino} {st : Int} (h : stErr C L st = 0) : C L = 0 ∧ top L ≤ st ∧ st ≤ 1099511627776 := by
  unfold stErr at h
  by_cases hc : C L = 0
  · rw [if_pos hc] at h
    by_cases hs : top L ≤ st ∧ st ≤ 1099511627776
    · exact ⟨hc, hs⟩
    · rw [if_neg hs] at h
      exact absurd h (by decide)
  · rw [if_neg hc] at h
    exact absurd h hc
theorem dirErr_four (L : List Ino) (a b : Int) : dirErr L a b = 0 ∨ dirErr L a b = 404 ∨ dirErr L a b = 401 ∨ dirErr L a b = 4 := by
  unfold dirErr findErr
  repeat' split
  all_goals omega
theorem nameErr_zero {L : List Ino} {a b : Int} {s : ByteArray} (h : nameErr L a b s = 0) : dirErr L a b = 0 ∧ lookErr L a b s = 402 := by
  unfold nameErr at h
  by_cases h0 : lookErr L a b s = 0
  · rw [if_pos h0] at h
    exact absurd h (by decide)
  · rw [if_neg h0] at h
    by_cases h2 : lookErr L a b s = 402
    · refine ⟨?_, h2⟩
      have h3 := h2
      unfold lookErr at h3
      by_cases hd : dirErr L a b = 0
      · exact hd
      · rw [if_neg hd] at h3
        have := dirErr_four L a b
        omega
    · rw [if_neg h2] at h
      exact absurd h h0
theorem linkErr_zero {C : List Ino → Int} {L : List Ino} {a b c d st : Int} {s : ByteArray} (h : linkErr C L a b c d s st = 0) :
    (C L = 0 ∧ top L ≤ st ∧ st ≤ 1099511627776) ∧ findErr L a b = 0 ∧ (findI L a b).kind ≠ 2 ∧ (findI L a b).links ≠ 64 ∧ dirErr L c d = 0 := by
  unfold linkErr at h
  by_cases hs : stErr C L st = 0
  · rw [if_pos hs] at h
    by_cases hf : findErr L a b = 0
    · rw [if_pos hf] at h
      by_cases hk : (findI L a b).kind = 2
      · rw [if_pos hk] at h
        exact absurd h (by decide)
      · rw [if_neg hk] at h
        by_cases hn : nameErr L c d s = 0
        · rw [if_pos hn] at h
          by_cases hl : (findI L a b).links = 64
          · rw [if_pos hl] at h
            exact absurd h (by decide)
          · exact ⟨stErr_zero hs, hf, hk, hl, (nameErr_zero hn).1⟩
        · rw [if_neg hn] at h
          exact absurd h hn
    · rw [if_neg hf] at h
      exact absurd h hf
  · rw [if_neg hs] at h
    exact absurd h hs
/-- What Link tells. -/
noncomputable def linkE (C : List Ino → Int) (L : List Ino) (a b c d : Int) (s : ByteArray) (st : Int) : Int :=
  if linkErr C L a b c d s st = 0 then Fo.addErr (dirEnts L c d) (dirNext L c d) s a b else linkErr C L a b c d s st
noncomputable def linkT (C : List Ino → Int) (L : List Ino) (a b c d : Int) (s : ByteArray) (st : Int) : List Ino :=
  if linkE C L a b c d s st = 0 then
    (L.set c.toNat (filled (findI L c d) ((findI L c d).ents ++ [(s, (findI L c d).next + 1, a, b)]) ((findI L c d).next + 1) st)).set a.toNat (linked (findI L a b) 1 st)
  else []
end Sp
set_option maxHeartbeats 4000000 in
theorem slink_any {C : List Ino → Int} (hC : ChkSaid C) (hM : Sp.ChkMeans C) {S : Nat → Prop} (v : Value) (L : List Rw) (a b c d : Int) (s : ByteArray) (st : Int) (w : World) (hv : TabAt S w v L) (hok : Sp.okN L) (hs : s.size ≤ maxLen) :
    Calls Tryz.prog 20 #[v, .agg #[.int .i64 a, .int .i64 b], .agg #[.int .i64 c, .int .i64 d], .string s, .int .i64 st] w fun e w' =>
      ∃ u L', e = .returned (.tuple #[u, .int .i64 (Sp.linkE C (pl L) a b c d s st)]) ∧ TabAt (fun b => w.heap.size ≤ b) w' u L' ∧ pl L' = Sp.linkT C (pl L) a b c d s st ∧ Below w.heap.size w w' := by
  obtain ⟨W, hW⟩ : ∃ W, W = (w.alloc (BH a b)).alloc (BH c d) := ⟨_, rfl⟩
  have HB0 : Hid (Below w.heap.size w W) := by show Below w.heap.size w W; rw [hW]; exact ((Below.refl _ w).alloc (Nat.le_refl _) _).alloc (by simp) _
  have HA0 : Hid (W.heap[w.heap.size]? = some (BH a b) ∧ W.heap[w.heap.size + 1]? = some (BH c d)) := by
    rw [hW]
    refine ⟨(Below.heap_alloc _ _ _ (by simp)).trans (heap_alloc_new _ _), ?_⟩
    have := heap_alloc_new (w.alloc (BH a b)) (BH c d)
    rwa [show (w.alloc (BH a b)).heap.size = w.heap.size + 1 by simp] at this
  have hws : w.heap.size + 1 < W.heap.size := by rw [hW]; simp
  have HV : Hid (TabAt S W v L) := hv.up HB0.out
  obtain ⟨ao, cap, rfl, _, _⟩ := hv.open
  have HOK : Hid (Sp.okN L) := hok
  have HSM : Hid (s.size ≤ maxLen) := hs
  have HCC : Hid (ChkSaid C) := hC
  have HMM : Hid (Sp.ChkMeans C) := hM
  clear hv hok hs hC hM
  obtain ⟨le, hle⟩ : ∃ le, Sp.linkErr C (pl L) a b c d s st = le := ⟨_, rfl⟩
  have HLE : Hid (Sp.linkErr C (pl L) a b c d s st = le) := hle
  by_cases hz : le = 0
  · subst hz
    obtain ⟨⟨hc0, hs1, hs2⟩, hf, hk2, hl64, hd⟩ := Sp.linkErr_zero hle
    obtain ⟨hr, hfo, hlen, -⟩ := HMM.out _ hc0
    obtain ⟨ka, xa, rfl, hxa, hga, hka, hia, -⟩ := Sp.find_get hf
    obtain ⟨kc, xc, rfl, hxc, hgc, hkc, hde, hdn, hfc, -⟩ := Sp.dir_get hd
    rw [hia] at hk2 hl64
    obtain ⟨ya, hya, rfl⟩ := Sp.pl_some hxa
    obtain ⟨yc, hyc, rfl⟩ := Sp.pl_some hxc
    obtain ⟨ae, hae⟩ : ∃ ae, Fo.addErr yc.i.ents yc.i.next s ka b = ae := ⟨_, rfl⟩
    have hE : Sp.linkE C (pl L) ka b kc d s st = ae := by unfold Sp.linkE; rw [if_pos hle, hde, hdn, hae]
    have HAE : Hid (Fo.addErr yc.i.ents yc.i.next s ka b = ae) := hae
    have hicd : findI (pl L) kc d = yc.i := by
      obtain ⟨k', x', h1, h2, -, -, h3, -⟩ := Sp.find_get hfc
      obtain rfl : kc = k' := by omega
      rw [hxc] at h2
      rw [h3]
      exact (Option.some.inj h2).symm
    have hT : Sp.linkT C (pl L) ka b kc d s st = if ae = 0 then ((pl L).set kc (Sp.filled yc.i (yc.i.ents ++ [(s, yc.i.next + 1, (ka : Int), b)]) (yc.i.next + 1) st)).set ka (Sp.linked ya.i 1 st) else [] := by
      unfold Sp.linkT
      rw [hE, hicd, hia]
      rfl
    have hlenc := hlen yc.i (List.mem_of_getElem? hxc)
    have HADD : Hid (Fo.addErr yc.i.ents yc.i.next s ka b = 0 → yc.i.ents.length + 1 ≤ 3518437208883 ∧ At.growErr yc.i.kind yc.i.links yc.i.size yc.i.stamp (yc.i.ents.length + 1) st = 0) := fun _ => ⟨by omega, Sp.grow_ok hr hxc (by omega) ⟨hs1, hs2⟩ ⟨by omega, by omega⟩⟩
    have HYC : Hid (L[kc]? = some yc ∧ ∀ e ∈ yc.i.ents, e.1.size ≤ maxLen) := ⟨hyc, HOK.out yc (List.mem_of_getElem? hyc)⟩
    have hap := At.right_iff.1 (Sp.attr_of hr (List.mem_of_getElem? hxa))
    unfold At.rightP at hap
    have hka1 : ya.i.kind = 1 := by omega
    have hlink : At.linkErr ya.i.kind ya.i.links ya.i.size ya.i.stamp 1 st = 0 := Sp.link_ok hr hxa hka1 ⟨hs1, hs2⟩ (.inl ⟨rfl, by omega⟩)
    have hst0 : 0 ≤ st := Int.le_trans (Sp.top_nonneg _) hs1
    have hne : kc ≠ ka := by
      intro h
      subst h
      rw [hxa] at hxc
      have := Option.some.inj hxc
      rw [this] at hka1
      omega
    have hone : ∀ x ∈ pl L, one x = true := (It.right_iff.1 hr).2.2
    have hp1 := Sp.putTab_set (y := Sp.filled yc.i (yc.i.ents ++ [(s, yc.i.next + 1, (ka : Int), b)]) (yc.i.next + 1) st) hfc hxc hgc (by show yc.i.kind ≠ 0; omega) (Sp.one_filled (hone _ (List.mem_of_getElem? hxc)) hkc ⟨hst0, hs2⟩ (by simp; omega)) rfl
    have hr1 : It.right ((pl L).set kc (Sp.filled yc.i (yc.i.ents ++ [(s, yc.i.next + 1, (ka : Int), b)]) (yc.i.next + 1) st)) = true := Sp.right_set hr hxc (Sp.one_filled (hone _ (List.mem_of_getElem? hxc)) hkc ⟨hst0, hs2⟩ (by simp; omega)) rfl
    have hx1 : ((pl L).set kc (Sp.filled yc.i (yc.i.ents ++ [(s, yc.i.next + 1, (ka : Int), b)]) (yc.i.next + 1) st))[ka]? = some ya.i := by rw [List.getElem?_set_ne hne]; exact hxa
    have hf1 : findErr ((pl L).set kc (Sp.filled yc.i (yc.i.ents ++ [(s, yc.i.next + 1, (ka : Int), b)]) (yc.i.next + 1) st)) ka b = 0 := by
      unfold findErr
      rw [if_pos hr1, if_pos ?_]
      unfold names
      rw [show ((ka : Int)).toNat = ka by omega, hx1]
      simp [hga, hka]
    have hp2 := Sp.putTab_set (y := Sp.linked ya.i 1 st) hf1 hx1 hga hka (Sp.one_linked (hone _ (List.mem_of_getElem? hxa)) hka1 ⟨hst0, hs2⟩ (by omega)) rfl
    have HP : Hid (putTab (pl L) kc d (Sp.filled yc.i (yc.i.ents ++ [(s, yc.i.next + 1, (ka : Int), b)]) (yc.i.next + 1) st) = (pl L).set kc (Sp.filled yc.i (yc.i.ents ++ [(s, yc.i.next + 1, (ka : Int), b)]) (yc.i.next + 1) st)) := hp1.2
    have HQ : Hid (putTab ((pl L).set kc (Sp.filled yc.i (yc.i.ents ++ [(s, yc.i.next + 1, (ka : Int), b)]) (yc.i.next + 1) st)) ka b (Sp.linked ya.i 1 st) = ((pl L).set kc (Sp.filled yc.i (yc.i.ents ++ [(s, yc.i.next + 1, (ka : Int), b)]) (yc.i.next + 1) st)).set ka (Sp.linked ya.i 1 st)) := hp2.2
    have HX1 : Hid (((pl L).set kc (Sp.filled yc.i (yc.i.ents ++ [(s, yc.i.next + 1, (ka : Int), b)]) (yc.i.next + 1) st))[ka]? = some ya.i) := hx1
    have HLK : Hid (At.linkErr ya.i.kind ya.i.links ya.i.size ya.i.stamp 1 st = 0) := hlink
    rw [hE, hT]
    obtain ⟨T1, hT1⟩ : ∃ T1, (pl L).set kc (Sp.filled yc.i (yc.i.ents ++ [(s, yc.i.next + 1, (ka : Int), b)]) (yc.i.next + 1) st) = T1 := ⟨_, rfl⟩
    rw [hT1] at HP HQ HX1 ⊢
    clear hle hc0 hs1 hs2 hf hk2 hl64 hd hr hfo hlen hxa hga hka hia hxc hgc hkc hde hdn hfc hya hyc hae hE hicd hT hlenc hap hka1 hlink hst0 hne hone hp1 hr1 hx1 hf1 hp2 hT1
    by_cases hz : ae = 0
    · subst hz
      rw [if_pos rfl]
      go_enter Tryz.func20, Tryz.ntmps20
      obtain ⟨⟨a0, a1⟩, _⟩ := two_of HA0.out.1
      obtain ⟨⟨g0, g1⟩, _⟩ := two_of HA0.out.2
      go_wp2_with fail
      rw [← hW]
      refine (refuseLink_any HCC.out _ L ka b kc d s st _ HV.out HOK.out HSM.out).mono ?_
      rintro e w1 ⟨rfl, hb1⟩
      rw [HLE.out]
      have HB1 : Hid (Below w.heap.size w w1) := HB0.out.trans (hb1.mono HB0.out.size)
      have HA1 : Hid (w1.heap[w.heap.size]? = some (BH ka b) ∧ w1.heap[w.heap.size + 1]? = some (BH kc d)) := ⟨(hb1.block _ (by omega)).trans HA0.out.1, (hb1.block _ (by omega)).trans HA0.out.2⟩
      have hws1 : w.heap.size + 1 < w1.heap.size := by have := hb1.size; omega
      have HV1 : Hid (TabAt S w1 (.slice ao L.length cap) L) := HV.out.up hb1
      clear hb1 hW HV HA0 a0 a1 g0 g1
      obtain ⟨⟨a0, a1⟩, _⟩ := two_of HA1.out.1
      obtain ⟨⟨g0, g1⟩, _⟩ := two_of HA1.out.2
      go_wp2_with fail
      refine (sadd_any _ L kc d ka b st s yc _ HV1.out HYC.out.1 HYC.out.2 HSM.out HADD.out).mono ?_
      rintro e w2 ⟨u, L1, rfl, ht, hp, hb2⟩
      rw [HAE.out] at hp ⊢
      have HB2 : Hid (Below w.heap.size w w2) := HB1.out.trans (hb2.mono HB1.out.size)
      rw [if_pos rfl, HP.out] at hp
      have HPL : Hid (pl L1 = T1) := hp
      have HT1 : Hid (TabAt (fun b => w1.heap.size ≤ b) w2 u L1) := ht
      have HA2 : Hid (w2.heap[w.heap.size]? = some (BH ka b)) := (hb2.block _ (by omega)).trans HA1.out.1
      obtain ⟨y1, hy1, hyi⟩ := Sp.pl_some (L := L1) (k := ka) (x := ya.i) (by rw [HPL.out]; exact HX1.out)
      have HY1 : Hid (L1[ka]? = some y1 ∧ y1.i = ya.i) := ⟨hy1, hyi⟩
      clear hb2 ht hp a0 a1 g0 g1 hy1 hyi
      obtain ⟨⟨a0, a1⟩, _⟩ := two_of HA2.out
      go_wp2_with fail
      refine (count_any u L1 ka b 1 st y1 _ HT1.out HY1.out.1 (by rw [HY1.out.2]; exact HLK.out)).mono ?_
      rintro e w3 ⟨u3, L3, rfl, ht3, hp3, hb3⟩
      rw [HPL.out, HY1.out.2, HQ.out] at hp3
      have HB3 : Hid (Below w.heap.size w w3) := HB2.out.trans (hb3.mono HB2.out.size)
      have HT3 : Hid (TabAt (fun b => w.heap.size ≤ b) w3 u3 L3) := ⟨ht3.1.imp fun _ h _ => Nat.le_trans HB2.out.size h, fun y hy => (ht3.2 y hy).imp fun _ h _ => Nat.le_trans HB2.out.size h⟩
      have HP3 : Hid (pl L3 = T1.set ka (Sp.linked ya.i 1 st)) := hp3
      clear hb3 ht3 hp3 a0 a1
      go_wp2
      (try simp only [Exit.inBlock, Exit.then])
      refine bodyPost_ret (v := .tuple #[u3, .int .i64 0]) (by simp [results, Tryz.results20, go_sem]) rfl ?_
      first
        | exact ⟨u3, rfl, L3, HT3.out, HP3.out, HB3.out⟩
        | exact ⟨u3, L3, rfl, HT3.out, HP3.out, HB3.out⟩
    · rw [if_neg hz]
      have hz' : (ae != 0) = true := by simpa using hz
      clear hz
      go_enter Tryz.func20, Tryz.ntmps20
      obtain ⟨⟨a0, a1⟩, _⟩ := two_of HA0.out.1
      obtain ⟨⟨g0, g1⟩, _⟩ := two_of HA0.out.2
      go_wp2_with fail
      rw [← hW]
      refine (refuseLink_any HCC.out _ L ka b kc d s st _ HV.out HOK.out HSM.out).mono ?_
      rintro e w1 ⟨rfl, hb1⟩
      rw [HLE.out]
      have HB1 : Hid (Below w.heap.size w w1) := HB0.out.trans (hb1.mono HB0.out.size)
      have HA1 : Hid (w1.heap[w.heap.size]? = some (BH ka b) ∧ w1.heap[w.heap.size + 1]? = some (BH kc d)) := ⟨(hb1.block _ (by omega)).trans HA0.out.1, (hb1.block _ (by omega)).trans HA0.out.2⟩
      have hws1 : w.heap.size + 1 < w1.heap.size := by have := hb1.size; omega
      have HV1 : Hid (TabAt S w1 (.slice ao L.length cap) L) := HV.out.up hb1
      clear hb1 hW HV HA0 a0 a1 g0 g1
      obtain ⟨⟨a0, a1⟩, _⟩ := two_of HA1.out.1
      obtain ⟨⟨g0, g1⟩, _⟩ := two_of HA1.out.2
      go_wp2_with fail
      refine (sadd_any _ L kc d ka b st s yc _ HV1.out HYC.out.1 HYC.out.2 HSM.out HADD.out).mono ?_
      rintro e w2 ⟨u, L1, rfl, ht, hp, hb2⟩
      rw [HAE.out] at hp ⊢
      have HB2 : Hid (Below w.heap.size w w2) := HB1.out.trans (hb2.mono HB1.out.size)
      clear hb2 ht hp a0 a1 g0 g1
      go_wp2
      (try simp only [Exit.inBlock, Exit.then])
      refine bodyPost_ret (v := .tuple #[.slice none 0 0, .int .i64 ae]) (by simp [results, Tryz.results20, go_sem]) rfl ?_
      first
        | exact ⟨_, rfl, [], tab_nil _ _, rfl, HB2.out⟩
        | exact ⟨_, [], rfl, tab_nil _ _, rfl, HB2.out⟩
  · have hE : Sp.linkE C (pl L) a b c d s st = le := by unfold Sp.linkE; rw [if_neg (by rw [hle]; exact hz), hle]
    have hT : Sp.linkT C (pl L) a b c d s st = [] := by unfold Sp.linkT; rw [if_neg (by rw [hE]; exact hz)]
    rw [hE, hT]
    have hz' : (le != 0) = true := by simpa using hz
    clear hz hE hT hle
    go_enter Tryz.func20, Tryz.ntmps20
    obtain ⟨⟨a0, a1⟩, _⟩ := two_of HA0.out.1
    obtain ⟨⟨g0, g1⟩, _⟩ := two_of HA0.out.2
    go_wp2_with fail
    rw [← hW]
    refine (refuseLink_any HCC.out _ L a b c d s st _ HV.out HOK.out HSM.out).mono ?_
    rintro e w1 ⟨rfl, hb1⟩
    rw [HLE.out]
    have HB1 : Hid (Below w.heap.size w w1) := HB0.out.trans (hb1.mono HB0.out.size)
    clear hb1 hW HV HA0 a0 a1 g0 g1
    go_wp2
    (try simp only [Exit.inBlock, Exit.then])
    refine bodyPost_ret (v := .tuple #[.slice none 0 0, .int .i64 le]) (by simp [results, Tryz.results20, go_sem]) rfl ?_
    first
      | exact ⟨_, rfl, [], tab_nil _ _, rfl, HB1.out⟩
      | exact ⟨_, [], rfl, tab_nil _ _, rfl, HB1.out⟩
end Go.Proofs.YtacghcoikekfeaaGreat
