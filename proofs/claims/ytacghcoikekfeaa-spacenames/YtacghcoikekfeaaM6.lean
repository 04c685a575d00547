/-
  The texts Sp14, Sp15, Sp16, Sp17, RefBase, PlainS, RefOne, RefA, SRef1, FTwo, FRefA, FRefB, FRefC, SRef2, SRef3, SRef4, SRef5, FPage, as one.
-/
import Derived.Deep.RegionHeld3
import Derived.WalkKit
import Derived.WalkSpells
import Derived.WalkLawsBesides
import Derived.ProofKit
import Derived.BigQuiet
import Derived.Deep.QuietTactic
import Derived.Deep.SlicePairs
import Derived.Lib.LazyBuf
import Derived.Test.YtacghcoikekfeaaM5
/- Sp14 -/
namespace Go.Proofs.Ytacghcoikekfeaa
open Go.ChangeShapes Go.WideShapes Go.ChangeAt Go.RowKit Go.Deep It
set_option maxRecDepth 100000
namespace Sp
/-- What a space is, as far as the changes ask: proved of Check elsewhere. -/
def ChkMeans (C : List Ino → Int) : Prop := ∀ L, C L = 0 → It.right L = true ∧ folds L ∧ (∀ x ∈ L, x.ents.length ≤ 1536) ∧ ∀ x ∈ L, ∀ e ∈ x.ents, findErr L e.2.2.1 e.2.2.2 = 0 ∧ 1 ≤ (findI L e.2.2.1 e.2.2.2).links ∧ e.2.2.1 ≠ 0
theorem stErr_zero {C : List Ino → Int} {L : List Ino} {st : Int} (h : stErr C L st = 0) : C L = 0 ∧ top L ≤ st ∧ st ≤ 1099511627776 := by
  unfold stErr at h
  by_cases hc : C L = 0
  · rw [if_pos hc] at h
    by_cases hs : top L ≤ st ∧ st ≤ 1099511627776
    · exact ⟨hc, hs⟩
    · rw [if_neg hs] at h
      exact absurd h (by decide)
  · rw [if_neg hc] at h
    exact absurd h hc
theorem dirErr_four (L : List Ino) (a b : Int) : dirErr L a b = 0 ∨ dirErr L a b = 404 ∨ dirErr L a b = 401 ∨ dirErr L a b = 4 := by
  unfold dirErr findErr
  repeat' split
  all_goals omega
theorem nameErr_zero {L : List Ino} {a b : Int} {s : ByteArray} (h : nameErr L a b s = 0) : dirErr L a b = 0 ∧ lookErr L a b s = 402 := by
  unfold nameErr at h
  by_cases h0 : lookErr L a b s = 0
  · rw [if_pos h0] at h
    exact absurd h (by decide)
  · rw [if_neg h0] at h
    by_cases h2 : lookErr L a b s = 402
    · refine ⟨?_, h2⟩
      have h3 := h2
      unfold lookErr at h3
      by_cases hd : dirErr L a b = 0
      · exact hd
      · rw [if_neg hd] at h3
        have := dirErr_four L a b
        omega
    · rw [if_neg h2] at h
      exact absurd h h0
theorem linkErr_zero {C : List Ino → Int} {L : List Ino} {a b c d st : Int} {s : ByteArray} (h : linkErr C L a b c d s st = 0) :
    (C L = 0 ∧ top L ≤ st ∧ st ≤ 1099511627776) ∧ findErr L a b = 0 ∧ (findI L a b).kind ≠ 2 ∧ (findI L a b).links ≠ 64 ∧ dirErr L c d = 0 := by
  unfold linkErr at h
  by_cases hs : stErr C L st = 0
  · rw [if_pos hs] at h
    by_cases hf : findErr L a b = 0
    · rw [if_pos hf] at h
      by_cases hk : (findI L a b).kind = 2
      · rw [if_pos hk] at h
        exact absurd h (by decide)
      · rw [if_neg hk] at h
        by_cases hn : nameErr L c d s = 0
        · rw [if_pos hn] at h
          by_cases hl : (findI L a b).links = 64
          · rw [if_pos hl] at h
            exact absurd h (by decide)
          · exact ⟨stErr_zero hs, hf, hk, hl, (nameErr_zero hn).1⟩
        · rw [if_neg hn] at h
          exact absurd h hn
    · rw [if_neg hf] at h
      exact absurd h hf
  · rw [if_neg hs] at h
    exact absurd h hs
/-- What Link tells. -/
noncomputable def linkE (C : List Ino → Int) (L : List Ino) (a b c d : Int) (s : ByteArray) (st : Int) : Int :=
  if linkErr C L a b c d s st = 0 then Fo.addErr (dirEnts L c d) (dirNext L c d) s a b else linkErr C L a b c d s st
noncomputable def linkT (C : List Ino → Int) (L : List Ino) (a b c d : Int) (s : ByteArray) (st : Int) : List Ino :=
  if linkE C L a b c d s st = 0 then
    (L.set c.toNat (filled (findI L c d) ((findI L c d).ents ++ [(s, (findI L c d).next + 1, a, b)]) ((findI L c d).next + 1) st)).set a.toNat (linked (findI L a b) 1 st)
  else []
end Sp
set_option maxHeartbeats 4000000 in
theorem slink_any {C : List Ino → Int} (hC : ChkSaid C) (hM : Sp.ChkMeans C) {S : Nat → Prop} (v : Value) (L : List Rw) (a b c d : Int) (s : ByteArray) (st : Int) (w : World) (hv : TabAt S w v L) (hok : Sp.okN L) (hs : s.size ≤ maxLen) :
    Calls Try.prog 17 #[v, .agg #[.int .i64 a, .int .i64 b], .agg #[.int .i64 c, .int .i64 d], .string s, .int .i64 st] w fun e w' =>
      ∃ u L', e = .returned (.tuple #[u, .int .i64 (Sp.linkE C (pl L) a b c d s st)]) ∧ TabAt (fun b => w.heap.size ≤ b) w' u L' ∧ pl L' = Sp.linkT C (pl L) a b c d s st ∧ Below w.heap.size w w' := by
  obtain ⟨W, hW⟩ : ∃ W, W = (w.alloc (BH a b)).alloc (BH c d) := ⟨_, rfl⟩
  have HB0 : Hid (Below w.heap.size w W) := by show Below w.heap.size w W; rw [hW]; exact ((Below.refl _ w).alloc (Nat.le_refl _) _).alloc (by simp) _
  have HA0 : Hid (W.heap[w.heap.size]? = some (BH a b) ∧ W.heap[w.heap.size + 1]? = some (BH c d)) := by
    rw [hW]
    refine ⟨(Below.heap_alloc _ _ _ (by simp)).trans (heap_alloc_new _ _), ?_⟩
    have := heap_alloc_new (w.alloc (BH a b)) (BH c d)
    rwa [show (w.alloc (BH a b)).heap.size = w.heap.size + 1 by simp] at this
  have hws : w.heap.size + 1 < W.heap.size := by rw [hW]; simp
  have HV : Hid (TabAt S W v L) := hv.up HB0.out
  obtain ⟨ao, cap, rfl, _, _⟩ := hv.open
  have HOK : Hid (Sp.okN L) := hok
  have HSM : Hid (s.size ≤ maxLen) := hs
  have HCC : Hid (ChkSaid C) := hC
  have HMM : Hid (Sp.ChkMeans C) := hM
  clear hv hok hs hC hM
  obtain ⟨le, hle⟩ : ∃ le, Sp.linkErr C (pl L) a b c d s st = le := ⟨_, rfl⟩
  have HLE : Hid (Sp.linkErr C (pl L) a b c d s st = le) := hle
  by_cases hz : le = 0
  · subst hz
    obtain ⟨⟨hc0, hs1, hs2⟩, hf, hk2, hl64, hd⟩ := Sp.linkErr_zero hle
    obtain ⟨hr, hfo, hlen, -⟩ := HMM.out _ hc0
    obtain ⟨ka, xa, rfl, hxa, hga, hka, hia, -⟩ := Sp.find_get hf
    obtain ⟨kc, xc, rfl, hxc, hgc, hkc, hde, hdn, hfc, -⟩ := Sp.dir_get hd
    rw [hia] at hk2 hl64
    obtain ⟨ya, hya, rfl⟩ := Sp.pl_some hxa
    obtain ⟨yc, hyc, rfl⟩ := Sp.pl_some hxc
    obtain ⟨ae, hae⟩ : ∃ ae, Fo.addErr yc.i.ents yc.i.next s ka b = ae := ⟨_, rfl⟩
    have hE : Sp.linkE C (pl L) ka b kc d s st = ae := by unfold Sp.linkE; rw [if_pos hle, hde, hdn, hae]
    have HAE : Hid (Fo.addErr yc.i.ents yc.i.next s ka b = ae) := hae
    have hicd : findI (pl L) kc d = yc.i := by
      obtain ⟨k', x', h1, h2, -, -, h3, -⟩ := Sp.find_get hfc
      obtain rfl : kc = k' := by omega
      rw [hxc] at h2
      rw [h3]
      exact (Option.some.inj h2).symm
    have hT : Sp.linkT C (pl L) ka b kc d s st = if ae = 0 then ((pl L).set kc (Sp.filled yc.i (yc.i.ents ++ [(s, yc.i.next + 1, (ka : Int), b)]) (yc.i.next + 1) st)).set ka (Sp.linked ya.i 1 st) else [] := by
      unfold Sp.linkT
      rw [hE, hicd, hia]
      rfl
    have hlenc := hlen yc.i (List.mem_of_getElem? hxc)
    have HADD : Hid (Fo.addErr yc.i.ents yc.i.next s ka b = 0 → yc.i.ents.length + 1 ≤ 3518437208883 ∧ At.growErr yc.i.kind yc.i.links yc.i.size yc.i.stamp (yc.i.ents.length + 1) st = 0) := fun _ => ⟨by omega, Sp.grow_ok hr hxc (by omega) ⟨hs1, hs2⟩ ⟨by omega, by omega⟩⟩
    have HYC : Hid (L[kc]? = some yc ∧ ∀ e ∈ yc.i.ents, e.1.size ≤ maxLen) := ⟨hyc, HOK.out yc (List.mem_of_getElem? hyc)⟩
    have hap := At.right_iff.1 (Sp.attr_of hr (List.mem_of_getElem? hxa))
    unfold At.rightP at hap
    have hka1 : ya.i.kind = 1 := by omega
    have hlink : At.linkErr ya.i.kind ya.i.links ya.i.size ya.i.stamp 1 st = 0 := Sp.link_ok hr hxa hka1 ⟨hs1, hs2⟩ (.inl ⟨rfl, by omega⟩)
    have hst0 : 0 ≤ st := Int.le_trans (Sp.top_nonneg _) hs1
    have hne : kc ≠ ka := by
      intro h
      subst h
      rw [hxa] at hxc
      have := Option.some.inj hxc
      rw [this] at hka1
      omega
    have hone : ∀ x ∈ pl L, one x = true := (It.right_iff.1 hr).2.2
    have hp1 := Sp.putTab_set (y := Sp.filled yc.i (yc.i.ents ++ [(s, yc.i.next + 1, (ka : Int), b)]) (yc.i.next + 1) st) hfc hxc hgc (by show yc.i.kind ≠ 0; omega) (Sp.one_filled (hone _ (List.mem_of_getElem? hxc)) hkc ⟨hst0, hs2⟩ (by simp; omega)) rfl
    have hr1 : It.right ((pl L).set kc (Sp.filled yc.i (yc.i.ents ++ [(s, yc.i.next + 1, (ka : Int), b)]) (yc.i.next + 1) st)) = true := Sp.right_set hr hxc (Sp.one_filled (hone _ (List.mem_of_getElem? hxc)) hkc ⟨hst0, hs2⟩ (by simp; omega)) rfl
    have hx1 : ((pl L).set kc (Sp.filled yc.i (yc.i.ents ++ [(s, yc.i.next + 1, (ka : Int), b)]) (yc.i.next + 1) st))[ka]? = some ya.i := by rw [List.getElem?_set_ne hne]; exact hxa
    have hf1 : findErr ((pl L).set kc (Sp.filled yc.i (yc.i.ents ++ [(s, yc.i.next + 1, (ka : Int), b)]) (yc.i.next + 1) st)) ka b = 0 := by
      unfold findErr
      rw [if_pos hr1, if_pos ?_]
      unfold names
      rw [show ((ka : Int)).toNat = ka by omega, hx1]
      simp [hga, hka]
    have hp2 := Sp.putTab_set (y := Sp.linked ya.i 1 st) hf1 hx1 hga hka (Sp.one_linked (hone _ (List.mem_of_getElem? hxa)) hka1 ⟨hst0, hs2⟩ (by omega)) rfl
    have HP : Hid (putTab (pl L) kc d (Sp.filled yc.i (yc.i.ents ++ [(s, yc.i.next + 1, (ka : Int), b)]) (yc.i.next + 1) st) = (pl L).set kc (Sp.filled yc.i (yc.i.ents ++ [(s, yc.i.next + 1, (ka : Int), b)]) (yc.i.next + 1) st)) := hp1.2
    have HQ : Hid (putTab ((pl L).set kc (Sp.filled yc.i (yc.i.ents ++ [(s, yc.i.next + 1, (ka : Int), b)]) (yc.i.next + 1) st)) ka b (Sp.linked ya.i 1 st) = ((pl L).set kc (Sp.filled yc.i (yc.i.ents ++ [(s, yc.i.next + 1, (ka : Int), b)]) (yc.i.next + 1) st)).set ka (Sp.linked ya.i 1 st)) := hp2.2
    have HX1 : Hid (((pl L).set kc (Sp.filled yc.i (yc.i.ents ++ [(s, yc.i.next + 1, (ka : Int), b)]) (yc.i.next + 1) st))[ka]? = some ya.i) := hx1
    have HLK : Hid (At.linkErr ya.i.kind ya.i.links ya.i.size ya.i.stamp 1 st = 0) := hlink
    rw [hE, hT]
    obtain ⟨T1, hT1⟩ : ∃ T1, (pl L).set kc (Sp.filled yc.i (yc.i.ents ++ [(s, yc.i.next + 1, (ka : Int), b)]) (yc.i.next + 1) st) = T1 := ⟨_, rfl⟩
    rw [hT1] at HP HQ HX1 ⊢
    clear hle hc0 hs1 hs2 hf hk2 hl64 hd hr hfo hlen hxa hga hka hia hxc hgc hkc hde hdn hfc hya hyc hae hE hicd hT hlenc hap hka1 hlink hst0 hne hone hp1 hr1 hx1 hf1 hp2 hT1
    by_cases hz : ae = 0
    · subst hz
      rw [if_pos rfl]
      go_enter Try.func17, Try.ntmps17
      obtain ⟨⟨a0, a1⟩, _⟩ := two_of HA0.out.1
      obtain ⟨⟨g0, g1⟩, _⟩ := two_of HA0.out.2
      go_wp2_with fail
      rw [← hW]
      refine (refuseLink_any HCC.out _ L ka b kc d s st _ HV.out HOK.out HSM.out).mono ?_
      rintro e w1 ⟨rfl, hb1⟩
      rw [HLE.out]
      have HB1 : Hid (Below w.heap.size w w1) := HB0.out.trans (hb1.mono HB0.out.size)
      have HA1 : Hid (w1.heap[w.heap.size]? = some (BH ka b) ∧ w1.heap[w.heap.size + 1]? = some (BH kc d)) := ⟨(hb1.block _ (by omega)).trans HA0.out.1, (hb1.block _ (by omega)).trans HA0.out.2⟩
      have hws1 : w.heap.size + 1 < w1.heap.size := by have := hb1.size; omega
      have HV1 : Hid (TabAt S w1 (.slice ao L.length cap) L) := HV.out.up hb1
      clear hb1 hW HV HA0 a0 a1 g0 g1
      obtain ⟨⟨a0, a1⟩, _⟩ := two_of HA1.out.1
      obtain ⟨⟨g0, g1⟩, _⟩ := two_of HA1.out.2
      go_wp2_with fail
      refine (sadd_any _ L kc d ka b st s yc _ HV1.out HYC.out.1 HYC.out.2 HSM.out HADD.out).mono ?_
      rintro e w2 ⟨u, L1, rfl, ht, hp, hb2⟩
      rw [HAE.out] at hp ⊢
      have HB2 : Hid (Below w.heap.size w w2) := HB1.out.trans (hb2.mono HB1.out.size)
      rw [if_pos rfl, HP.out] at hp
      have HPL : Hid (pl L1 = T1) := hp
      have HT1 : Hid (TabAt (fun b => w1.heap.size ≤ b) w2 u L1) := ht
      have HA2 : Hid (w2.heap[w.heap.size]? = some (BH ka b)) := (hb2.block _ (by omega)).trans HA1.out.1
      obtain ⟨y1, hy1, hyi⟩ := Sp.pl_some (L := L1) (k := ka) (x := ya.i) (by rw [HPL.out]; exact HX1.out)
      have HY1 : Hid (L1[ka]? = some y1 ∧ y1.i = ya.i) := ⟨hy1, hyi⟩
      clear hb2 ht hp a0 a1 g0 g1 hy1 hyi
      obtain ⟨⟨a0, a1⟩, _⟩ := two_of HA2.out
      go_wp2_with fail
      refine (count_any u L1 ka b 1 st y1 _ HT1.out HY1.out.1 (by rw [HY1.out.2]; exact HLK.out)).mono ?_
      rintro e w3 ⟨u3, L3, rfl, ht3, hp3, hb3⟩
      rw [HPL.out, HY1.out.2, HQ.out] at hp3
      have HB3 : Hid (Below w.heap.size w w3) := HB2.out.trans (hb3.mono HB2.out.size)
      have HT3 : Hid (TabAt (fun b => w.heap.size ≤ b) w3 u3 L3) := ⟨ht3.1.imp fun _ h _ => Nat.le_trans HB2.out.size h, fun y hy => (ht3.2 y hy).imp fun _ h _ => Nat.le_trans HB2.out.size h⟩
      have HP3 : Hid (pl L3 = T1.set ka (Sp.linked ya.i 1 st)) := hp3
      clear hb3 ht3 hp3 a0 a1
      go_wp2
      (try simp only [Exit.inBlock, Exit.then])
      refine bodyPost_ret (v := .tuple #[u3, .int .i64 0]) (by simp [results, Try.results17, go_sem]) rfl ?_
      first
        | exact ⟨u3, rfl, L3, HT3.out, HP3.out, HB3.out⟩
        | exact ⟨u3, L3, rfl, HT3.out, HP3.out, HB3.out⟩
    · rw [if_neg hz]
      have hz' : (ae != 0) = true := by simpa using hz
      clear hz
      go_enter Try.func17, Try.ntmps17
      obtain ⟨⟨a0, a1⟩, _⟩ := two_of HA0.out.1
      obtain ⟨⟨g0, g1⟩, _⟩ := two_of HA0.out.2
      go_wp2_with fail
      rw [← hW]
      refine (refuseLink_any HCC.out _ L ka b kc d s st _ HV.out HOK.out HSM.out).mono ?_
      rintro e w1 ⟨rfl, hb1⟩
      rw [HLE.out]
      have HB1 : Hid (Below w.heap.size w w1) := HB0.out.trans (hb1.mono HB0.out.size)
      have HA1 : Hid (w1.heap[w.heap.size]? = some (BH ka b) ∧ w1.heap[w.heap.size + 1]? = some (BH kc d)) := ⟨(hb1.block _ (by omega)).trans HA0.out.1, (hb1.block _ (by omega)).trans HA0.out.2⟩
      have hws1 : w.heap.size + 1 < w1.heap.size := by have := hb1.size; omega
      have HV1 : Hid (TabAt S w1 (.slice ao L.length cap) L) := HV.out.up hb1
      clear hb1 hW HV HA0 a0 a1 g0 g1
      obtain ⟨⟨a0, a1⟩, _⟩ := two_of HA1.out.1
      obtain ⟨⟨g0, g1⟩, _⟩ := two_of HA1.out.2
      go_wp2_with fail
      refine (sadd_any _ L kc d ka b st s yc _ HV1.out HYC.out.1 HYC.out.2 HSM.out HADD.out).mono ?_
      rintro e w2 ⟨u, L1, rfl, ht, hp, hb2⟩
      rw [HAE.out] at hp ⊢
      have HB2 : Hid (Below w.heap.size w w2) := HB1.out.trans (hb2.mono HB1.out.size)
      clear hb2 ht hp a0 a1 g0 g1
      go_wp2
      (try simp only [Exit.inBlock, Exit.then])
      refine bodyPost_ret (v := .tuple #[.slice none 0 0, .int .i64 ae]) (by simp [results, Try.results17, go_sem]) rfl ?_
      first
        | exact ⟨_, rfl, [], tab_nil _ _, rfl, HB2.out⟩
        | exact ⟨_, [], rfl, tab_nil _ _, rfl, HB2.out⟩
  · have hE : Sp.linkE C (pl L) a b c d s st = le := by unfold Sp.linkE; rw [if_neg (by rw [hle]; exact hz), hle]
    have hT : Sp.linkT C (pl L) a b c d s st = [] := by unfold Sp.linkT; rw [if_neg (by rw [hE]; exact hz)]
    rw [hE, hT]
    have hz' : (le != 0) = true := by simpa using hz
    clear hz hE hT hle
    go_enter Try.func17, Try.ntmps17
    obtain ⟨⟨a0, a1⟩, _⟩ := two_of HA0.out.1
    obtain ⟨⟨g0, g1⟩, _⟩ := two_of HA0.out.2
    go_wp2_with fail
    rw [← hW]
    refine (refuseLink_any HCC.out _ L a b c d s st _ HV.out HOK.out HSM.out).mono ?_
    rintro e w1 ⟨rfl, hb1⟩
    rw [HLE.out]
    have HB1 : Hid (Below w.heap.size w w1) := HB0.out.trans (hb1.mono HB0.out.size)
    clear hb1 hW HV HA0 a0 a1 g0 g1
    go_wp2
    (try simp only [Exit.inBlock, Exit.then])
    refine bodyPost_ret (v := .tuple #[.slice none 0 0, .int .i64 le]) (by simp [results, Try.results17, go_sem]) rfl ?_
    first
      | exact ⟨_, rfl, [], tab_nil _ _, rfl, HB1.out⟩
      | exact ⟨_, [], rfl, tab_nil _ _, rfl, HB1.out⟩
end Go.Proofs.Ytacghcoikekfeaa
/- Sp15 -/
namespace Go.Proofs.Ytacghcoikekfeaa
open Go.ChangeShapes Go.WideShapes Go.ChangeAt Go.RowKit Go.Deep It
set_option maxRecDepth 100000
namespace Sp
theorem lookErr_zero {L : List Ino} {a b : Int} {s : ByteArray} (h : lookErr L a b s = 0) : dirErr L a b = 0 ∧ Fo.findErr (dirEnts L a b) (dirNext L a b) s = 0 ∧ lookH L a b s = (Fo.found (dirEnts L a b) (dirNext L a b) s).2.2 := by
  unfold lookErr at h
  by_cases hd : dirErr L a b = 0
  · rw [if_pos hd] at h
    exact ⟨hd, h, by unfold lookH; rw [if_pos hd]⟩
  · rw [if_neg hd] at h
    exact absurd h hd
/-- A name to go that was found: the folder, the place, the inode. -/
theorem to_zero {C : List Ino → Int} (hM : ChkMeans C) {L : List Ino} {st a b : Int} {s : ByteArray} (h : toErr C L st a b s = 0) :
    ∃ (kc : Nat) (xc : Ino) (j : Nat) (e : Ent) (kt : Nat) (xt : Ino), a = kc ∧ L[kc]? = some xc ∧ xc.gen = b ∧ xc.kind = 2 ∧ findErr L a b = 0 ∧ Fo.findErr xc.ents xc.next s = 0 ∧ Fo.plc xc.ents xc.next s = j ∧ xc.ents[j]? = some e ∧
      toH C L st a b s = e.2.2 ∧ e.2.2.1 = kt ∧ kt ≠ 0 ∧ L[kt]? = some xt ∧ xt.gen = e.2.2.2 ∧ xt.kind ≠ 0 ∧ 1 ≤ xt.links ∧ findErr L e.2.2.1 e.2.2.2 = 0 ∧ findI L e.2.2.1 e.2.2.2 = xt ∧ findI L a b = xc ∧
      It.right L = true ∧ (top L ≤ st ∧ st ≤ 1099511627776) ∧ xc.ents.length ≤ 1536 := by
  unfold toErr at h
  by_cases hs : stErr C L st = 0
  · rw [if_pos hs] at h
    obtain ⟨hc0, hs1, hs2⟩ := stErr_zero hs
    obtain ⟨hr, -, hlen, hnm⟩ := hM _ hc0
    obtain ⟨hd, hf, hh⟩ := lookErr_zero h
    obtain ⟨kc, xc, hk, hx, hg, hk2, hde, hdn, hfe, -⟩ := dir_get hd
    obtain ⟨kc', xc', hk', hx', -, -, hi', -⟩ := find_get hfe
    obtain rfl : kc = kc' := by omega
    rw [hx] at hx'
    obtain rfl : xc = xc' := Option.some.inj hx'
    rw [hde, hdn] at hf hh
    rcases Fo.findErr_or xc.ents xc.next s with ⟨j, e, -, hp, hj, -, -, -, -⟩ | ⟨-, h4⟩
    · rw [Fo.found_hit hf hp hj] at hh
      obtain ⟨n1, n2, n3⟩ := hnm xc (List.mem_of_getElem? hx) e (List.mem_of_getElem? hj)
      obtain ⟨kt, xt, ht, hxt, hgt, hkt, hit, -⟩ := find_get n1
      rw [hit] at n2
      exact ⟨kc, xc, j, e, kt, xt, hk, hx, hg, hk2, hfe, hf, hp, hj, by unfold toH; rw [if_pos hs, hh], ht, by omega, hxt, hgt, hkt, n2, n1, hit, hi', hr, ⟨hs1, hs2⟩, hlen xc (List.mem_of_getElem? hx)⟩
    · omega
  · rw [if_neg hs] at h
    exact absurd h hs
/-- What Rmdir tells. -/
noncomputable def rmE (C : List Ino → Int) (L : List Ino) (a b : Int) (s : ByteArray) (st : Int) : Int :=
  if toErr C L st a b s = 0 then (if (findI L (toH C L st a b s).1 (toH C L st a b s).2).kind = 2 then (if (findI L (toH C L st a b s).1 (toH C L st a b s).2).ents = [] then 0 else 406) else 404) else toErr C L st a b s
noncomputable def lessDir (L : List Ino) (a b : Int) (s : ByteArray) (st : Int) : List Ino :=
  L.set a.toNat (filled (findI L a b) ((findI L a b).ents.eraseIdx (Fo.plc (findI L a b).ents (findI L a b).next s).toNat) (findI L a b).next st)
noncomputable def rmT (C : List Ino → Int) (L : List Ino) (a b : Int) (s : ByteArray) (st : Int) : List Ino :=
  if rmE C L a b s st = 0 then (lessDir L a b s st).set (toH C L st a b s).1.toNat (gone (toH C L st a b s).2) else []
/-- The table with a name less: right; the inode of another number is the same. -/
theorem less_right {L : List Ino} {kc : Nat} {xc : Ino} {s : ByteArray} {b st : Int} (hr : It.right L = true) (hx : L[kc]? = some xc) (hg : xc.gen = b) (hk : xc.kind = 2) (hf : findErr L kc b = 0) (hs : 0 ≤ st ∧ st ≤ 1099511627776) (hl : xc.ents.length ≤ 1536) :
    putTab L kc b (filled xc (xc.ents.eraseIdx (Fo.plc xc.ents xc.next s).toNat) xc.next st) = L.set kc (filled xc (xc.ents.eraseIdx (Fo.plc xc.ents xc.next s).toNat) xc.next st) ∧
      It.right (L.set kc (filled xc (xc.ents.eraseIdx (Fo.plc xc.ents xc.next s).toNat) xc.next st)) = true := by
  have ho := (It.right_iff.1 hr).2.2 xc (List.mem_of_getElem? hx)
  have h1 : one (filled xc (xc.ents.eraseIdx (Fo.plc xc.ents xc.next s).toNat) xc.next st) = true := one_filled ho hk hs (Nat.le_trans (List.length_eraseIdx_le ..) (by omega))
  exact ⟨(putTab_set (y := filled xc (xc.ents.eraseIdx (Fo.plc xc.ents xc.next s).toNat) xc.next st) hf hx hg (by show xc.kind ≠ 0; omega) h1 rfl).2, right_set hr hx h1 rfl⟩
theorem find_set {L : List Ino} {k j : Nat} {x y : Ino} {g : Int} (hr : It.right (L.set k y) = true) (hx : L[j]? = some x) (hne : k ≠ j) (hg : x.gen = g) (hk : x.kind ≠ 0) : findErr (L.set k y) j g = 0 := by
  unfold findErr
  rw [if_pos hr, if_pos ?_]
  unfold names
  rw [show ((j : Int)).toNat = j by omega, List.getElem?_set_ne hne, hx]
  simp [hg, hk]
end Sp
end Go.Proofs.Ytacghcoikekfeaa
/- Sp16 -/
namespace Go.Proofs.Ytacghcoikekfeaa
open Go.ChangeShapes Go.WideShapes Go.ChangeAt Go.RowKit Go.Deep It
set_option maxRecDepth 100000
set_option maxHeartbeats 4000000 in
theorem srmdir_any {C : List Ino → Int} (hC : ChkSaid C) (hM : Sp.ChkMeans C) {S : Nat → Prop} (v : Value) (L : List Rw) (a b : Int) (s : ByteArray) (st : Int) (w : World) (hv : TabAt S w v L) (hok : Sp.okN L) (hs : s.size ≤ maxLen) :
    Calls Try.prog 14 #[v, .agg #[.int .i64 a, .int .i64 b], .string s, .int .i64 st] w fun e w' =>
      ∃ u L', e = .returned (.tuple #[u, .int .i64 (Sp.rmE C (pl L) a b s st)]) ∧ TabAt (fun b => w.heap.size ≤ b) w' u L' ∧ pl L' = Sp.rmT C (pl L) a b s st ∧ Below w.heap.size w w' := by
  obtain ⟨W, hW⟩ : ∃ W, W = w.alloc (BH a b) := ⟨_, rfl⟩
  have HB0 : Hid (Below w.heap.size w W) := by show Below w.heap.size w W; rw [hW]; exact (Below.refl _ w).alloc (Nat.le_refl _) _
  have HA0 : Hid (W.heap[w.heap.size]? = some (BH a b)) := by show W.heap[w.heap.size]? = _; rw [hW]; exact heap_alloc_new _ _
  have hws : w.heap.size < W.heap.size := by rw [hW]; simp
  have HV : Hid (TabAt S W v L) := hv.up HB0.out
  have HVW : Hid (∀ V, Below w.heap.size w V → TabAt S V v L) := fun V h => hv.up h
  obtain ⟨ao, cap, rfl, hm, hx⟩ := hv.open
  have HOK : Hid (Sp.okN L) := hok
  have HSM : Hid (s.size ≤ maxLen) := hs
  have HCC : Hid (ChkSaid C) := hC
  obtain ⟨q, hq⟩ : ∃ q, Sp.toH C (pl L) st a b s = q := ⟨_, rfl⟩
  obtain ⟨te, hte⟩ : ∃ te, Sp.toErr C (pl L) st a b s = te := ⟨_, rfl⟩
  have HTE : Hid (Sp.toH C (pl L) st a b s = q ∧ Sp.toErr C (pl L) st a b s = te) := ⟨hq, hte⟩
  clear hv hok hs hC
  by_cases hz : te = 0
  · subst hz
    obtain ⟨kc, xc, j, en, kt, xt, rfl, hxc, hgc, hkc, hfc, hff, hpl, hj, hqe, hkt, hkt0, hxt, hgt, hkt2, hlk, hft, hit, hic, hr, hst, hlen⟩ := Sp.to_zero hM hte
    rw [hq] at hqe
    subst hqe
    obtain ⟨yc, hyc, rfl⟩ := Sp.pl_some hxc
    obtain ⟨yt, hyt, rfl⟩ := Sp.pl_some hxt
    have hst0 : 0 ≤ st := Int.le_trans (Sp.top_nonneg _) hst.1
    obtain ⟨⟨bb, off, rfl, hB, hc8⟩, hgd⟩ := hx kt yt hyt
    have HX8 : Hid (∀ V, Below w.heap.size w V → eight V bb (off + kt * 8) yt) := fun V h => hc8.below h hB
    have HLEN : Hid (yt.en = yt.i.ents.length) := hgd.len.2
    have hkl : (kt : Int) < (L.length : Int) := by have := (List.getElem?_eq_some_iff.1 hyt).1; omega
    have hE : Sp.rmE C (pl L) kc b s st = if yt.i.kind = 2 then (if yt.i.ents = [] then 0 else 406) else 404 := by
      unfold Sp.rmE
      rw [hte, if_pos rfl, hq, hit]
    obtain ⟨en1, en2, en3, g⟩ := en
    simp only at hq hkt hgt hft hit HTE
    subst hkt
    have hTn : ∀ e, Sp.rmE C (pl L) kc b s st = e → e ≠ 0 → Sp.rmT C (pl L) kc b s st = [] := fun e h h0 => by unfold Sp.rmT; rw [if_neg (by rw [h]; exact h0)]
    by_cases hk2 : yt.i.kind = 2
    · rw [if_pos hk2] at hE
      have hkd : (yt.i.kind == 2) = true := by simp [hk2]
      by_cases he0 : yt.i.ents = []
      · rw [if_pos he0] at hE
        obtain ⟨hp1, hr1⟩ := Sp.less_right (s := s) hr hxc hgc hkc hfc ⟨hst0, hst.2⟩ hlen
        have hne : kc ≠ kt := by
          intro h
          subst h
          rw [hxc] at hxt
          rw [Option.some.inj hxt, he0] at hj
          simp at hj
        have hf1 := Sp.find_set hr1 hxt hne hgt hkt2
        have hT : Sp.rmT C (pl L) kc b s st = ((pl L).set kc (Sp.filled yc.i (yc.i.ents.eraseIdx (Fo.plc yc.i.ents yc.i.next s).toNat) yc.i.next st)).set kt (gone g) := by
          unfold Sp.rmT Sp.lessDir
          rw [hE, if_pos rfl, hq, hic]
          rfl
        rw [hE, hT]
        obtain ⟨T1, hT1⟩ : ∃ T1, (pl L).set kc (Sp.filled yc.i (yc.i.ents.eraseIdx (Fo.plc yc.i.ents yc.i.next s).toNat) yc.i.next st) = T1 := ⟨_, rfl⟩
        have HP : Hid (putTab (pl L) kc b (Sp.filled yc.i (yc.i.ents.eraseIdx (Fo.plc yc.i.ents yc.i.next s).toNat) yc.i.next st) = T1) := hp1.trans hT1
        rw [hT1] at hf1 ⊢
        have hlt1 : kt < T1.length := by rw [← hT1]; simpa using (List.getElem?_eq_some_iff.1 hyt).1
        have HDR : Hid (dropErr T1 kt g = 0 ∧ dropTab T1 kt g = T1.set kt (gone g)) := by
          have h : dropErr T1 kt g = 0 := by unfold dropErr; rw [if_pos hf1, if_neg (by omega)]
          refine ⟨h, ?_⟩
          unfold dropTab put
          rw [if_pos h, show ((kt : Int)).toNat = kt by omega, if_pos hlt1]
        have HYC : Hid (L[kc]? = some yc ∧ (∀ e ∈ yc.i.ents, e.1.size ≤ maxLen) ∧ Fo.findErr yc.i.ents yc.i.next s = 0 ∧ At.growErr yc.i.kind yc.i.links yc.i.size yc.i.stamp (yc.i.ents.eraseIdx (Fo.plc yc.i.ents yc.i.next s).toNat).length st = 0) :=
          ⟨hyc, HOK.out yc (List.mem_of_getElem? hyc), hff, Sp.grow_ok hr hxc (by omega) hst ⟨by omega, by have := List.length_eraseIdx_le yc.i.ents (Fo.plc yc.i.ents yc.i.next s).toNat; omega⟩⟩
        have hen : yt.en = 0 := by rw [HLEN.out, he0]; rfl
        have HEN : Hid (yt.en = 0) := hen
        rw [show yt.i.ents.length = 0 by rw [he0]; rfl] at HLEN
        have hen2 : ¬ ((0 : Int) < (yt.en : Int)) := by omega
        clear hE hT hTn hM hte hq hx hc8 hgd hfc hft hr hst hxc hgc hkc hff hpl hj hic hlen hyc hyt hxt hgt hkt2 hlk hit hst0 he0 hp1 hr1 hf1 hT1 hlt1 hne hk2 hkt0 hen
        go_enter Try.func14, Try.ntmps14
        obtain ⟨⟨a0, a1⟩, _⟩ := two_of HA0.out
        go_wp2_with fail
        rw [← hW]
        refine (toChange_any HCC.out _ L kc b s st _ HV.out HOK.out HSM.out).mono ?_
        rintro e w1 ⟨rfl, hb1⟩
        rw [HTE.out.1, HTE.out.2]
        have HB1 : Hid (Below w.heap.size w w1) := HB0.out.trans (hb1.mono HB0.out.size)
        obtain ⟨W1, hW1⟩ : ∃ W1, W1 = w1.alloc (BH kt g) := ⟨_, rfl⟩
        have HBW : Hid (Below w.heap.size w W1) := by show Below w.heap.size w W1; rw [hW1]; exact HB1.out.alloc HB1.out.size _
        have HAW : Hid (W1.heap[w.heap.size]? = some (BH kc b) ∧ W1.heap[w1.heap.size]? = some (BH kt g)) := by
          rw [hW1]
          exact ⟨(Below.heap_alloc _ _ _ (Nat.lt_of_lt_of_le hws hb1.size)).trans ((hb1.block _ hws).trans HA0.out), heap_alloc_new _ _⟩
        have hws1 : w.heap.size < W1.heap.size := (Array.getElem?_eq_some_iff.1 HAW.out.1).1
        have hwt1 : w1.heap.size < W1.heap.size := (Array.getElem?_eq_some_iff.1 HAW.out.2).1
        clear hb1 hW a0 a1
        have hbw1 : bb < w1.heap.size := Nat.lt_of_lt_of_le hB HB1.out.size
        obtain ⟨r0, r1, r2, r3, r4, r5, r6, r7⟩ := HX8.out _ HB1.out
        go_wp2_with fail
        rw [← hW1]
        refine (isDir_any yt _).mono ?_
        rintro e w2 ⟨rfl, hw2⟩
        rw [hkd]
        have hb2 : Below W1.heap.size W1 w2 := by rw [hw2]; exact (Below.refl _ _).alloc (Nat.le_refl _) _
        have HB2 : Hid (Below w.heap.size w w2) := HBW.out.trans (hb2.mono HBW.out.size)
        have HA2 : Hid (w2.heap[w.heap.size]? = some (BH kc b) ∧ w2.heap[w1.heap.size]? = some (BH kt g)) := ⟨(hb2.block _ hws1).trans HAW.out.1, (hb2.block _ hwt1).trans HAW.out.2⟩
        clear hw2 hb2 r0 r1 r2 r3 r4 r5 r6 r7 hW1
        obtain ⟨⟨t0, t1⟩, _⟩ := two_of HA2.out.2
        obtain ⟨r0, r1, r2, r3, r4, r5, r6, r7⟩ := HX8.out _ HB2.out
        have HSG : Hid (∀ w' : World, Below w2.heap.size w2 w' → w'.cell? ⟨w.heap.size, 0, none⟩ = some (.int .i64 kc) ∧ w'.cell? ⟨w.heap.size, 1, none⟩ = some (.int .i64 b) ∧ w'.cell? ⟨w1.heap.size, 0, none⟩ = some (.int .i64 kt) ∧ w'.cell? ⟨w1.heap.size, 1, none⟩ = some (.int .i64 g)) := fun V h => by
          obtain ⟨⟨a0, a1⟩, _⟩ := two_of HA2.out.1
          obtain ⟨⟨t0, t1⟩, _⟩ := two_of HA2.out.2
          exact ⟨cell_step a0 h, cell_step a1 h, cell_step t0 h, cell_step t1 h⟩
        have HREM : Hid (∀ V, Below w2.heap.size w2 V → Calls Try.prog 28 #[.slice (some ⟨bb, off, none⟩) L.length cap, .agg #[.int .i64 kc, .int .i64 b], .string s, .int .i64 st] V fun e w' => ∃ u L', e = .returned u ∧ TabAt (fun b => V.heap.size ≤ b) w' u L' ∧ pl L' = T1 ∧ Below V.heap.size V w') := fun V h => (sremove_any _ L kc b st s yc V (HVW.out _ (HB2.out.trans (h.mono HB2.out.size))) HYC.out.1 HYC.out.2.1 HSM.out HYC.out.2.2.1 HYC.out.2.2.2).mono fun e w' ⟨u, L', h1, h2, h3, h4⟩ => ⟨u, L', h1, h2, by rw [h3]; exact HP.out, h4⟩
        go_wp2_with fail
        clear t0 t1 r0 r1 r2 r3 r4 r5 r6 r7
        go_region_held3 (fun w' => w'.cell? ⟨w.heap.size, 0, none⟩ = some (.int .i64 kc) ∧ w'.cell? ⟨w.heap.size, 1, none⟩ = some (.int .i64 b) ∧ w'.cell? ⟨w1.heap.size, 0, none⟩ = some (.int .i64 kt) ∧ w'.cell? ⟨w1.heap.size, 1, none⟩ = some (.int .i64 g)) (first | exact HSG.out _ (by (repeat (first | assumption | exact Below.refl _ _ | refine bel_drew ?_ | refine Below.setCell ?_ (by first | exact Nat.le_refl _ | assumption) _ | refine Below.alloc ?_ (by first | exact Nat.le_refl _ | assumption) _)))) (first
          | (go_at_call 28; refine (HREM.out _ (by (repeat (first | assumption | exact Below.refl _ _ | refine bel_drew ?_ | refine Below.setCell ?_ (by first | exact Nat.le_refl _ | assumption) _ | refine Below.alloc ?_ (by first | exact Nat.le_refl _ | assumption) _)))).mono ?_; rintro e w3 ⟨u3, L3, rfl, ht3, hp3, hb3⟩; have hb33 : Below w2.heap.size w2 w3 := undrew hb3; clear hb3)
          | (go_at_call 30; refine (drop_any _ L3 kt g _ ht3).mono ?_; rintro e w4 ⟨u4, L4, rfl, ht4, hp4, hb4⟩; have hb44 : Below w2.heap.size w2 w4 := hb33.trans (hb4.mono hb33.size)))
        all_goals
          rw [hp3] at hp4
          rw [HDR.out.1]
          rw [HDR.out.2] at hp4
          have HB4 : Hid (Below w.heap.size w w4) := HB2.out.trans (hb44.mono HB2.out.size)
          have hw3 : w.heap.size ≤ w3.heap.size := Nat.le_trans HB2.out.size hb33.size
          have HT4 : Hid (TabAt (fun b => w.heap.size ≤ b) w4 u4 L4) := ⟨ht4.1.imp fun _ h _ => Nat.le_trans hw3 h, fun y hy => (ht4.2 y hy).imp fun _ h _ => Nat.le_trans hw3 h⟩
          have HP4 : Hid (pl L4 = T1.set kt (gone g)) := hp4
          clear ht4 hp4 hb4 ht3 hp3
          go_wp2
          (try simp only [Exit.inBlock, Exit.then])
          refine bodyPost_ret (v := .tuple #[u4, .int .i64 0]) (by simp [results, Try.results14, go_sem]) rfl ?_
          first
            | exact ⟨u4, rfl, L4, HT4.out, HP4.out, HB4.out⟩
            | exact ⟨u4, L4, rfl, HT4.out, HP4.out, HB4.out⟩
      · rw [if_neg he0] at hE
        rw [hE, hTn _ hE (by decide)]
        have hen : 0 < yt.en := by rw [HLEN.out]; exact List.length_pos_iff.2 he0
        have hen2 : ((0 : Int) < (yt.en : Int)) := by omega
        clear hE hTn hM hte hq hx hc8 hgd hfc hft hr hst hxc hgc hkc hff hpl hj hic hlen hyc hyt hxt hgt hkt2 hlk hit hst0 he0 hk2 hkt0
        go_enter Try.func14, Try.ntmps14
        obtain ⟨⟨a0, a1⟩, _⟩ := two_of HA0.out
        go_wp2_with fail
        rw [← hW]
        refine (toChange_any HCC.out _ L kc b s st _ HV.out HOK.out HSM.out).mono ?_
        rintro e w1 ⟨rfl, hb1⟩
        rw [HTE.out.1, HTE.out.2]
        have HB1 : Hid (Below w.heap.size w w1) := HB0.out.trans (hb1.mono HB0.out.size)
        obtain ⟨W1, hW1⟩ : ∃ W1, W1 = w1.alloc (BH kt g) := ⟨_, rfl⟩
        have HBW : Hid (Below w.heap.size w W1) := by show Below w.heap.size w W1; rw [hW1]; exact HB1.out.alloc HB1.out.size _
        have HAW : Hid (W1.heap[w.heap.size]? = some (BH kc b) ∧ W1.heap[w1.heap.size]? = some (BH kt g)) := by
          rw [hW1]
          exact ⟨(Below.heap_alloc _ _ _ (Nat.lt_of_lt_of_le hws hb1.size)).trans ((hb1.block _ hws).trans HA0.out), heap_alloc_new _ _⟩
        have hws1 : w.heap.size < W1.heap.size := (Array.getElem?_eq_some_iff.1 HAW.out.1).1
        have hwt1 : w1.heap.size < W1.heap.size := (Array.getElem?_eq_some_iff.1 HAW.out.2).1
        clear hb1 hW a0 a1
        have hbw1 : bb < w1.heap.size := Nat.lt_of_lt_of_le hB HB1.out.size
        obtain ⟨r0, r1, r2, r3, r4, r5, r6, r7⟩ := HX8.out _ HB1.out
        go_wp2_with fail
        rw [← hW1]
        refine (isDir_any yt _).mono ?_
        rintro e w2 ⟨rfl, hw2⟩
        rw [hkd]
        have hb2 : Below W1.heap.size W1 w2 := by rw [hw2]; exact (Below.refl _ _).alloc (Nat.le_refl _) _
        have HB2 : Hid (Below w.heap.size w w2) := HBW.out.trans (hb2.mono HBW.out.size)
        have HA2 : Hid (w2.heap[w.heap.size]? = some (BH kc b) ∧ w2.heap[w1.heap.size]? = some (BH kt g)) := ⟨(hb2.block _ hws1).trans HAW.out.1, (hb2.block _ hwt1).trans HAW.out.2⟩
        clear hw2 hb2 r0 r1 r2 r3 r4 r5 r6 r7 hW1
        obtain ⟨⟨t0, t1⟩, _⟩ := two_of HA2.out.2
        obtain ⟨r0, r1, r2, r3, r4, r5, r6, r7⟩ := HX8.out _ HB2.out
        go_wp2
        (try simp only [Exit.inBlock, Exit.then])
        refine bodyPost_ret (v := .tuple #[.slice none 0 0, .int .i64 406]) (by simp [results, Try.results14, go_sem]) rfl ?_
        first
          | exact ⟨_, rfl, [], tab_nil _ _, rfl, HB2.out⟩
          | exact ⟨_, [], rfl, tab_nil _ _, rfl, HB2.out⟩
    · rw [if_neg hk2] at hE
      rw [hE, hTn _ hE (by decide)]
      have hkd : (yt.i.kind == 2) = false := beq_eq_false_iff_ne.2 hk2
      clear hE hTn hM hte hq hx hc8 hgd hfc hft hr hst hxc hgc hkc hff hpl hj hic hlen hyc hyt hxt hgt hkt2 hlk hit hst0 hk2 hkt0
      go_enter Try.func14, Try.ntmps14
      obtain ⟨⟨a0, a1⟩, _⟩ := two_of HA0.out
      go_wp2_with fail
      rw [← hW]
      refine (toChange_any HCC.out _ L kc b s st _ HV.out HOK.out HSM.out).mono ?_
      rintro e w1 ⟨rfl, hb1⟩
      rw [HTE.out.1, HTE.out.2]
      have HB1 : Hid (Below w.heap.size w w1) := HB0.out.trans (hb1.mono HB0.out.size)
      obtain ⟨W1, hW1⟩ : ∃ W1, W1 = w1.alloc (BH kt g) := ⟨_, rfl⟩
      have HBW : Hid (Below w.heap.size w W1) := by show Below w.heap.size w W1; rw [hW1]; exact HB1.out.alloc HB1.out.size _
      have HAW : Hid (W1.heap[w.heap.size]? = some (BH kc b) ∧ W1.heap[w1.heap.size]? = some (BH kt g)) := by
        rw [hW1]
        exact ⟨(Below.heap_alloc _ _ _ (Nat.lt_of_lt_of_le hws hb1.size)).trans ((hb1.block _ hws).trans HA0.out), heap_alloc_new _ _⟩
      have hws1 : w.heap.size < W1.heap.size := (Array.getElem?_eq_some_iff.1 HAW.out.1).1
      have hwt1 : w1.heap.size < W1.heap.size := (Array.getElem?_eq_some_iff.1 HAW.out.2).1
      clear hb1 hW a0 a1
      have hbw1 : bb < w1.heap.size := Nat.lt_of_lt_of_le hB HB1.out.size
      obtain ⟨r0, r1, r2, r3, r4, r5, r6, r7⟩ := HX8.out _ HB1.out
      go_wp2_with fail
      rw [← hW1]
      refine (isDir_any yt _).mono ?_
      rintro e w2 ⟨rfl, hw2⟩
      rw [hkd]
      have hb2 : Below W1.heap.size W1 w2 := by rw [hw2]; exact (Below.refl _ _).alloc (Nat.le_refl _) _
      have HB2 : Hid (Below w.heap.size w w2) := HBW.out.trans (hb2.mono HBW.out.size)
      have HA2 : Hid (w2.heap[w.heap.size]? = some (BH kc b) ∧ w2.heap[w1.heap.size]? = some (BH kt g)) := ⟨(hb2.block _ hws1).trans HAW.out.1, (hb2.block _ hwt1).trans HAW.out.2⟩
      clear hw2 hb2 r0 r1 r2 r3 r4 r5 r6 r7 hW1
      go_wp2
      (try simp only [Exit.inBlock, Exit.then])
      refine bodyPost_ret (v := .tuple #[.slice none 0 0, .int .i64 404]) (by simp [results, Try.results14, go_sem]) rfl ?_
      first
        | exact ⟨_, rfl, [], tab_nil _ _, rfl, HB2.out⟩
        | exact ⟨_, [], rfl, tab_nil _ _, rfl, HB2.out⟩
  · have hE : Sp.rmE C (pl L) a b s st = te := by unfold Sp.rmE; rw [if_neg (by rw [hte]; exact hz), hte]
    have hT : Sp.rmT C (pl L) a b s st = [] := by unfold Sp.rmT; rw [if_neg (by rw [hE]; exact hz)]
    rw [hE, hT]
    have hz' : (te != 0) = true := by simpa using hz
    clear hz hE hT hte hM hx
    go_enter Try.func14, Try.ntmps14
    obtain ⟨⟨a0, a1⟩, _⟩ := two_of HA0.out
    go_wp2_with fail
    rw [← hW]
    refine (toChange_any HCC.out _ L a b s st _ HV.out HOK.out HSM.out).mono ?_
    rintro e w1 ⟨rfl, hb1⟩
    rw [HTE.out.1, HTE.out.2]
    have HB1 : Hid (Below w.heap.size w w1) := HB0.out.trans (hb1.mono HB0.out.size)
    clear hb1 hW a0 a1
    go_wp2
    (try simp only [Exit.inBlock, Exit.then])
    refine bodyPost_ret (v := .tuple #[.slice none 0 0, .int .i64 te]) (by simp [results, Try.results14, go_sem]) rfl ?_
    first
      | exact ⟨_, rfl, [], tab_nil _ _, rfl, HB1.out.alloc HB1.out.size _⟩
      | exact ⟨_, [], rfl, tab_nil _ _, rfl, HB1.out.alloc HB1.out.size _⟩
end Go.Proofs.Ytacghcoikekfeaa
/- Sp17 -/
namespace Go.Proofs.Ytacghcoikekfeaa
open Go.ChangeShapes Go.WideShapes Go.ChangeAt Go.RowKit Go.Deep It
set_option maxRecDepth 100000
namespace Sp
/-- What Unlink tells. -/
noncomputable def ulE (C : List Ino → Int) (L : List Ino) (a b : Int) (s : ByteArray) (st : Int) : Int :=
  if toErr C L st a b s = 0 then (if (findI L (toH C L st a b s).1 (toH C L st a b s).2).kind = 2 then 405 else 0) else toErr C L st a b s
noncomputable def ulT (C : List Ino → Int) (L : List Ino) (a b : Int) (s : ByteArray) (st : Int) : List Ino :=
  if ulE C L a b s st = 0 then (lessDir L a b s st).set (toH C L st a b s).1.toNat (linked (findI L (toH C L st a b s).1 (toH C L st a b s).2) (-1) st) else []
noncomputable def ulH (C : List Ino → Int) (L : List Ino) (a b : Int) (s : ByteArray) (st : Int) : Int × Int := if ulE C L a b s st = 0 then toH C L st a b s else (0, 0)
end Sp
theorem four_set {A B : Nat} {a b c d : Int} {w : World} (h : w.cell? ⟨A, 0, none⟩ = some (.int .i64 a) ∧ w.cell? ⟨A, 1, none⟩ = some (.int .i64 b) ∧ w.cell? ⟨B, 0, none⟩ = some (.int .i64 c) ∧ w.cell? ⟨B, 1, none⟩ = some (.int .i64 d)) {p : Addr} (h1 : A ≠ p.block) (h2 : B ≠ p.block) (u : Value) :
    (w.setCell p u).cell? ⟨A, 0, none⟩ = some (.int .i64 a) ∧ (w.setCell p u).cell? ⟨A, 1, none⟩ = some (.int .i64 b) ∧ (w.setCell p u).cell? ⟨B, 0, none⟩ = some (.int .i64 c) ∧ (w.setCell p u).cell? ⟨B, 1, none⟩ = some (.int .i64 d) :=
  ⟨(cell_block (Below.heap_setCell _ _ _ _ h1)).trans h.1, (cell_block (Below.heap_setCell _ _ _ _ h1)).trans h.2.1, (cell_block (Below.heap_setCell _ _ _ _ h2)).trans h.2.2.1, (cell_block (Below.heap_setCell _ _ _ _ h2)).trans h.2.2.2⟩
set_option maxHeartbeats 4000000 in
theorem sunlink_any {C : List Ino → Int} (hC : ChkSaid C) (hM : Sp.ChkMeans C) {S : Nat → Prop} (v : Value) (L : List Rw) (a b : Int) (s : ByteArray) (st : Int) (w : World) (hv : TabAt S w v L) (hok : Sp.okN L) (hs : s.size ≤ maxLen) :
    Calls Try.prog 18 #[v, .agg #[.int .i64 a, .int .i64 b], .string s, .int .i64 st] w fun e w' =>
      ∃ u L', e = .returned (.tuple #[u, .agg #[.int .i64 (Sp.ulH C (pl L) a b s st).1, .int .i64 (Sp.ulH C (pl L) a b s st).2], .int .i64 (Sp.ulE C (pl L) a b s st)]) ∧ TabAt (fun b => w.heap.size ≤ b) w' u L' ∧ pl L' = Sp.ulT C (pl L) a b s st ∧ Below w.heap.size w w' := by
  obtain ⟨W, hW⟩ : ∃ W, W = (w.alloc (BH a b)).alloc (BH 0 0) := ⟨_, rfl⟩
  have HB0 : Hid (Below w.heap.size w W) := by show Below w.heap.size w W; rw [hW]; exact ((Below.refl _ w).alloc (Nat.le_refl _) _).alloc (by simp) _
  have HA0 : Hid (W.heap[w.heap.size]? = some (BH a b)) := by show W.heap[w.heap.size]? = _; rw [hW]; exact (Below.heap_alloc _ _ _ (by simp)).trans (heap_alloc_new _ _)
  have HZ0 : Hid (W.heap[w.heap.size + 1]? = some (BH 0 0)) := by
    show W.heap[w.heap.size + 1]? = _
    rw [hW]
    have := heap_alloc_new (w.alloc (BH a b)) (BH 0 0)
    rwa [show (w.alloc (BH a b)).heap.size = w.heap.size + 1 by simp] at this
  have hwz : w.heap.size + 1 < W.heap.size := by rw [hW]; simp
  have hws : w.heap.size < W.heap.size := by omega
  have HV : Hid (TabAt S W v L) := hv.up HB0.out
  have HVW : Hid (∀ V, Below w.heap.size w V → TabAt S V v L) := fun V h => hv.up h
  obtain ⟨ao, cap, rfl, hm, hx⟩ := hv.open
  have HOK : Hid (Sp.okN L) := hok
  have HSM : Hid (s.size ≤ maxLen) := hs
  have HCC : Hid (ChkSaid C) := hC
  obtain ⟨q, hq⟩ : ∃ q, Sp.toH C (pl L) st a b s = q := ⟨_, rfl⟩
  obtain ⟨te, hte⟩ : ∃ te, Sp.toErr C (pl L) st a b s = te := ⟨_, rfl⟩
  have HTE : Hid (Sp.toH C (pl L) st a b s = q ∧ Sp.toErr C (pl L) st a b s = te) := ⟨hq, hte⟩
  clear hv hok hs hC
  by_cases hz : te = 0
  · subst hz
    obtain ⟨kc, xc, j, en, kt, xt, rfl, hxc, hgc, hkc, hfc, hff, hpl, hj, hqe, hkt, hkt0, hxt, hgt, hkt2, hlk, hft, hit, hic, hr, hst, hlen⟩ := Sp.to_zero hM hte
    rw [hq] at hqe
    subst hqe
    obtain ⟨yc, hyc, rfl⟩ := Sp.pl_some hxc
    obtain ⟨yt, hyt, rfl⟩ := Sp.pl_some hxt
    have hst0 : 0 ≤ st := Int.le_trans (Sp.top_nonneg _) hst.1
    obtain ⟨⟨bb, off, rfl, hB, hc8⟩, hgd⟩ := hx kt yt hyt
    have HX8 : Hid (∀ V, Below w.heap.size w V → eight V bb (off + kt * 8) yt) := fun V h => hc8.below h hB
    have HLEN : Hid (yt.en = yt.i.ents.length) := hgd.len.2
    have hkl : (kt : Int) < (L.length : Int) := by have := (List.getElem?_eq_some_iff.1 hyt).1; omega
    have hE : Sp.ulE C (pl L) kc b s st = if yt.i.kind = 2 then 405 else 0 := by
      unfold Sp.ulE
      rw [hte, if_pos rfl, hq, hit]
    obtain ⟨en1, en2, en3, g⟩ := en
    simp only at hq hkt hgt hft hit HTE
    subst hkt
    have hTn : ∀ e, Sp.ulE C (pl L) kc b s st = e → e ≠ 0 → Sp.ulT C (pl L) kc b s st = [] := fun e h h0 => by unfold Sp.ulT; rw [if_neg (by rw [h]; exact h0)]
    have hHn : ∀ e, Sp.ulE C (pl L) kc b s st = e → e ≠ 0 → Sp.ulH C (pl L) kc b s st = (0, 0) := fun e h h0 => by unfold Sp.ulH; rw [if_neg (by rw [h]; exact h0)]
    by_cases hk2 : yt.i.kind = 2
    · rw [if_pos hk2] at hE
      have hkd : (yt.i.kind == 2) = true := by simp [hk2]
      rw [hTn _ hE (by decide), hHn _ hE (by decide), hE]
      clear hE hTn hHn hM hte hq hx hc8 hgd hfc hft hr hst hxc hgc hkc hff hpl hj hic hlen hyc hyt hxt hgt hkt2 hlk hit hst0 hk2 hkt0
      go_enter Try.func18, Try.ntmps18
      obtain ⟨⟨a0, a1⟩, _⟩ := two_of HA0.out
      go_wp2_with fail
      rw [← hW]
      refine (toChange_any HCC.out _ L kc b s st _ HV.out HOK.out HSM.out).mono ?_
      rintro e w1 ⟨rfl, hb1⟩
      rw [HTE.out.1, HTE.out.2]
      have HB1 : Hid (Below w.heap.size w w1) := HB0.out.trans (hb1.mono HB0.out.size)
      have HZ1 : Hid (w1.heap[w.heap.size + 1]? = some (BH 0 0)) := (hb1.block _ hwz).trans HZ0.out
      have hwz1 : w.heap.size + 1 < w1.heap.size := (Array.getElem?_eq_some_iff.1 HZ1.out).1
      obtain ⟨W1, hW1⟩ : ∃ W1, W1 = w1.alloc (BH kt g) := ⟨_, rfl⟩
      have HBW : Hid (Below w.heap.size w W1) := by show Below w.heap.size w W1; rw [hW1]; exact HB1.out.alloc HB1.out.size _
      have HAW : Hid (W1.heap[w.heap.size]? = some (BH kc b) ∧ W1.heap[w1.heap.size]? = some (BH kt g) ∧ W1.heap[w.heap.size + 1]? = some (BH 0 0)) := by
        rw [hW1]
        exact ⟨(Below.heap_alloc _ _ _ (Nat.lt_of_lt_of_le hws hb1.size)).trans ((hb1.block _ hws).trans HA0.out), heap_alloc_new _ _, (Below.heap_alloc _ _ _ hwz1).trans HZ1.out⟩
      have hws1 : w.heap.size < W1.heap.size := (Array.getElem?_eq_some_iff.1 HAW.out.1).1
      have hwt1 : w1.heap.size < W1.heap.size := (Array.getElem?_eq_some_iff.1 HAW.out.2.1).1
      have hwy1 : w.heap.size + 1 < W1.heap.size := (Array.getElem?_eq_some_iff.1 HAW.out.2.2).1
      clear hb1 hW a0 a1
      have hbw1 : bb < w1.heap.size := Nat.lt_of_lt_of_le hB HB1.out.size
      obtain ⟨r0, r1, r2, r3, r4, r5, r6, r7⟩ := HX8.out _ HB1.out
      go_wp2_with fail
      rw [← hW1]
      refine (isDir_any yt _).mono ?_
      rintro e w2 ⟨rfl, hw2⟩
      rw [hkd]
      have hb2 : Below W1.heap.size W1 w2 := by rw [hw2]; exact (Below.refl _ _).alloc (Nat.le_refl _) _
      have HB2 : Hid (Below w.heap.size w w2) := HBW.out.trans (hb2.mono HBW.out.size)
      have HA2 : Hid (w2.heap[w.heap.size]? = some (BH kc b) ∧ w2.heap[w1.heap.size]? = some (BH kt g)) := ⟨(hb2.block _ hws1).trans HAW.out.1, (hb2.block _ hwt1).trans HAW.out.2.1⟩
      have HZ2 : Hid (w2.heap[w.heap.size + 1]? = some (BH 0 0)) := (hb2.block _ hwy1).trans HAW.out.2.2
      have hwz2 : w.heap.size + 1 < w2.heap.size := (Array.getElem?_eq_some_iff.1 HZ2.out).1
      clear hw2 hb2 r0 r1 r2 r3 r4 r5 r6 r7 hW1
      obtain ⟨⟨z0, z1⟩, zf⟩ := two_of HZ2.out
      go_wp2
      (try simp only [Exit.inBlock, Exit.then])
      refine bodyPost_ret (v := .tuple #[.slice none 0 0, .agg #[.int .i64 0, .int .i64 0], .int .i64 405]) ?_ rfl ?_
      · rw [results_tct rfl]
        go_simp
      · have hbe := HB2.out
        have hbs := hbe.size
        first
          | exact ⟨_, rfl, [], tab_nil _ _, rfl, by repeat (first | exact hbe | refine Below.setCell ?_ (by simp) _ | refine Below.alloc ?_ (by simp; omega) _)⟩
          | exact ⟨_, [], rfl, tab_nil _ _, rfl, by repeat (first | exact hbe | refine Below.setCell ?_ (by simp) _ | refine Below.alloc ?_ (by simp; omega) _)⟩
    · rw [if_neg hk2] at hE
      have hkd : (yt.i.kind == 2) = false := beq_eq_false_iff_ne.2 hk2
      obtain ⟨hp1, hr1⟩ := Sp.less_right (s := s) hr hxc hgc hkc hfc ⟨hst0, hst.2⟩ hlen
      have hap := At.right_iff.1 (Sp.attr_of hr (List.mem_of_getElem? hxt))
      unfold At.rightP at hap
      have hk1 : yt.i.kind = 1 := by omega
      have hne : kc ≠ kt := by
        intro h
        subst h
        rw [hxc] at hxt
        rw [Option.some.inj hxt] at hkc
        omega
      have hf1 := Sp.find_set hr1 hxt hne hgt hkt2
      have hH : Sp.ulH C (pl L) kc b s st = ((kt : Int), g) := by unfold Sp.ulH; rw [hE, if_pos rfl, hq]
      have hT : Sp.ulT C (pl L) kc b s st = ((pl L).set kc (Sp.filled yc.i (yc.i.ents.eraseIdx (Fo.plc yc.i.ents yc.i.next s).toNat) yc.i.next st)).set kt (Sp.linked yt.i (-1) st) := by
        unfold Sp.ulT Sp.lessDir
        rw [hE, if_pos rfl, hq, hic, hit]
        rfl
      rw [hE, hT, hH]
      obtain ⟨T1, hT1⟩ : ∃ T1, (pl L).set kc (Sp.filled yc.i (yc.i.ents.eraseIdx (Fo.plc yc.i.ents yc.i.next s).toNat) yc.i.next st) = T1 := ⟨_, rfl⟩
      have HP : Hid (putTab (pl L) kc b (Sp.filled yc.i (yc.i.ents.eraseIdx (Fo.plc yc.i.ents yc.i.next s).toNat) yc.i.next st) = T1) := hp1.trans hT1
      have hx1 : T1[kt]? = some yt.i := by rw [← hT1, List.getElem?_set_ne hne]; exact hxt
      rw [hT1] at hf1 ⊢
      have HX1 : Hid (T1[kt]? = some yt.i) := hx1
      have hone := (It.right_iff.1 hr).2.2 yt.i (List.mem_of_getElem? hxt)
      have HQ : Hid (putTab T1 kt g (Sp.linked yt.i (-1) st) = T1.set kt (Sp.linked yt.i (-1) st)) := (Sp.putTab_set (y := Sp.linked yt.i (-1) st) hf1 hx1 hgt hkt2 (Sp.one_linked hone hk1 ⟨hst0, hst.2⟩ (by omega)) rfl).2
      have HLK : Hid (At.linkErr yt.i.kind yt.i.links yt.i.size yt.i.stamp (-1) st = 0) := Sp.link_ok hr hxt hk1 hst (.inr ⟨rfl, by omega⟩)
      have HYC : Hid (L[kc]? = some yc ∧ (∀ e ∈ yc.i.ents, e.1.size ≤ maxLen) ∧ Fo.findErr yc.i.ents yc.i.next s = 0 ∧ At.growErr yc.i.kind yc.i.links yc.i.size yc.i.stamp (yc.i.ents.eraseIdx (Fo.plc yc.i.ents yc.i.next s).toNat).length st = 0) :=
        ⟨hyc, HOK.out yc (List.mem_of_getElem? hyc), hff, Sp.grow_ok hr hxc (by omega) hst ⟨by omega, by have := List.length_eraseIdx_le yc.i.ents (Fo.plc yc.i.ents yc.i.next s).toNat; omega⟩⟩
      clear hE hTn hHn hM hte hq hx hc8 hgd hfc hft hr hst hxc hgc hkc hff hpl hj hic hlen hyc hyt hxt hgt hkt2 hlk hit hst0 hk2 hkt0 hT hH hp1 hr1 hf1 hT1 hne hap hk1 hx1 hone
      go_enter Try.func18, Try.ntmps18
      obtain ⟨⟨a0, a1⟩, _⟩ := two_of HA0.out
      go_wp2_with fail
      rw [← hW]
      refine (toChange_any HCC.out _ L kc b s st _ HV.out HOK.out HSM.out).mono ?_
      rintro e w1 ⟨rfl, hb1⟩
      rw [HTE.out.1, HTE.out.2]
      have HB1 : Hid (Below w.heap.size w w1) := HB0.out.trans (hb1.mono HB0.out.size)
      have HZ1 : Hid (w1.heap[w.heap.size + 1]? = some (BH 0 0)) := (hb1.block _ hwz).trans HZ0.out
      have hwz1 : w.heap.size + 1 < w1.heap.size := (Array.getElem?_eq_some_iff.1 HZ1.out).1
      obtain ⟨W1, hW1⟩ : ∃ W1, W1 = w1.alloc (BH kt g) := ⟨_, rfl⟩
      have HBW : Hid (Below w.heap.size w W1) := by show Below w.heap.size w W1; rw [hW1]; exact HB1.out.alloc HB1.out.size _
      have HAW : Hid (W1.heap[w.heap.size]? = some (BH kc b) ∧ W1.heap[w1.heap.size]? = some (BH kt g) ∧ W1.heap[w.heap.size + 1]? = some (BH 0 0)) := by
        rw [hW1]
        exact ⟨(Below.heap_alloc _ _ _ (Nat.lt_of_lt_of_le hws hb1.size)).trans ((hb1.block _ hws).trans HA0.out), heap_alloc_new _ _, (Below.heap_alloc _ _ _ hwz1).trans HZ1.out⟩
      have hws1 : w.heap.size < W1.heap.size := (Array.getElem?_eq_some_iff.1 HAW.out.1).1
      have hwt1 : w1.heap.size < W1.heap.size := (Array.getElem?_eq_some_iff.1 HAW.out.2.1).1
      have hwy1 : w.heap.size + 1 < W1.heap.size := (Array.getElem?_eq_some_iff.1 HAW.out.2.2).1
      clear hb1 hW a0 a1
      have hbw1 : bb < w1.heap.size := Nat.lt_of_lt_of_le hB HB1.out.size
      obtain ⟨r0, r1, r2, r3, r4, r5, r6, r7⟩ := HX8.out _ HB1.out
      go_wp2_with fail
      rw [← hW1]
      refine (isDir_any yt _).mono ?_
      rintro e w2 ⟨rfl, hw2⟩
      rw [hkd]
      have hb2 : Below W1.heap.size W1 w2 := by rw [hw2]; exact (Below.refl _ _).alloc (Nat.le_refl _) _
      have HB2 : Hid (Below w.heap.size w w2) := HBW.out.trans (hb2.mono HBW.out.size)
      have HA2 : Hid (w2.heap[w.heap.size]? = some (BH kc b) ∧ w2.heap[w1.heap.size]? = some (BH kt g)) := ⟨(hb2.block _ hws1).trans HAW.out.1, (hb2.block _ hwt1).trans HAW.out.2.1⟩
      have HZ2 : Hid (w2.heap[w.heap.size + 1]? = some (BH 0 0)) := (hb2.block _ hwy1).trans HAW.out.2.2
      have hwz2 : w.heap.size + 1 < w2.heap.size := (Array.getElem?_eq_some_iff.1 HZ2.out).1
      clear hw2 hb2 r0 r1 r2 r3 r4 r5 r6 r7 hW1
      have HSG : Hid (∀ w' : World, Below w2.heap.size w2 w' → w'.cell? ⟨w.heap.size, 0, none⟩ = some (.int .i64 kc) ∧ w'.cell? ⟨w.heap.size, 1, none⟩ = some (.int .i64 b) ∧ w'.cell? ⟨w1.heap.size, 0, none⟩ = some (.int .i64 kt) ∧ w'.cell? ⟨w1.heap.size, 1, none⟩ = some (.int .i64 g)) := fun V h => by
        obtain ⟨⟨a0, a1⟩, _⟩ := two_of HA2.out.1
        obtain ⟨⟨t0, t1⟩, _⟩ := two_of HA2.out.2
        exact ⟨cell_step a0 h, cell_step a1 h, cell_step t0 h, cell_step t1 h⟩
      have HREM : Hid (∀ V, Below w2.heap.size w2 V → Calls Try.prog 28 #[.slice (some ⟨bb, off, none⟩) L.length cap, .agg #[.int .i64 kc, .int .i64 b], .string s, .int .i64 st] V fun e w' => ∃ u L', e = .returned u ∧ TabAt (fun b => V.heap.size ≤ b) w' u L' ∧ pl L' = T1 ∧ Below V.heap.size V w') := fun V h => (sremove_any _ L kc b st s yc V (HVW.out _ (HB2.out.trans (h.mono HB2.out.size))) HYC.out.1 HYC.out.2.1 HSM.out HYC.out.2.2.1 HYC.out.2.2.2).mono fun e w' ⟨u, L', h1, h2, h3, h4⟩ => ⟨u, L', h1, h2, by rw [h3]; exact HP.out, h4⟩
      have HCNT : Hid (∀ V u L1 (S : Nat → Prop), TabAt S V u L1 → pl L1 = T1 → Calls Try.prog 33 #[u, .agg #[.int .i64 kt, .int .i64 g], .int .i64 (-1), .int .i64 st] V fun e w' => ∃ u L', e = .returned u ∧ TabAt (fun b => V.heap.size ≤ b) w' u L' ∧ pl L' = T1.set kt (Sp.linked yt.i (-1) st) ∧ Below V.heap.size V w') := fun V u L1 S h hp => by
        obtain ⟨y1, hy1, hyi⟩ := Sp.pl_some (L := L1) (k := kt) (x := yt.i) (by rw [hp]; exact HX1.out)
        refine (count_any u L1 kt g (-1) st y1 V h hy1 (by rw [hyi]; exact HLK.out)).mono fun e w' ⟨u, L', h1, h2, h3, h4⟩ => ⟨u, L', h1, h2, ?_, h4⟩
        rw [h3, hp, hyi]
        exact HQ.out
      have hn1 : w.heap.size ≠ w.heap.size + 1 := by omega
      have hn2 : w1.heap.size ≠ w.heap.size + 1 := by omega
      go_wp2_with fail
      go_region_held3 (fun w' => w'.cell? ⟨w.heap.size, 0, none⟩ = some (.int .i64 kc) ∧ w'.cell? ⟨w.heap.size, 1, none⟩ = some (.int .i64 b) ∧ w'.cell? ⟨w1.heap.size, 0, none⟩ = some (.int .i64 kt) ∧ w'.cell? ⟨w1.heap.size, 1, none⟩ = some (.int .i64 g)) (first | exact four_set (four_set (HSG.out _ hb44) hn1 hn2 _) hn1 hn2 _ | exact four_set (HSG.out _ hb44) hn1 hn2 _ | exact HSG.out _ (by (repeat (first | assumption | exact Below.refl _ _ | refine bel_drew ?_ | refine Below.setCell ?_ (by first | exact Nat.le_refl _ | assumption) _ | refine Below.alloc ?_ (by first | exact Nat.le_refl _ | assumption) _)))) (first
        | (go_at_call 28; refine (HREM.out _ (by (repeat (first | assumption | exact Below.refl _ _ | refine bel_drew ?_ | refine Below.setCell ?_ (by first | exact Nat.le_refl _ | assumption) _ | refine Below.alloc ?_ (by first | exact Nat.le_refl _ | assumption) _)))).mono ?_; rintro e w3 ⟨u3, L3, rfl, ht3, hp3, hb3⟩; have hb33 : Below w2.heap.size w2 w3 := undrew hb3; clear hb3)
        | (go_at_call 33; refine (HCNT.out _ _ L3 _ ht3 hp3).mono ?_; rintro e w4 ⟨u4, L4, rfl, ht4, hp4, hb4⟩; have hb44 : Below w2.heap.size w2 w4 := hb33.trans (hb4.mono hb33.size); obtain ⟨⟨z0, z1⟩, zf⟩ := two_of ((hb44.block _ hwz2).trans HZ2.out)))
      all_goals
        have HB4 : Hid (Below w.heap.size w w4) := HB2.out.trans (hb44.mono HB2.out.size)
        have hw3 : w.heap.size + 1 < w3.heap.size := Nat.lt_of_lt_of_le hwz2 hb33.size
        have HT4 : Hid (TabAt (fun b => w3.heap.size ≤ b) w4 u4 L4) := ht4
        have HP4 : Hid (pl L4 = T1.set kt (Sp.linked yt.i (-1) st)) := hp4
        clear ht4 hp4 hb4 ht3 hp3
        go_wp2
        (try simp only [Exit.inBlock, Exit.then])
        refine bodyPost_ret (v := .tuple #[u4, .agg #[.int .i64 kt, .int .i64 g], .int .i64 0]) ?_ rfl ?_
        · rw [results_tct rfl]
          go_simp
        · have hbe := HB4.out
          have hfin : TabAt (fun b => w.heap.size ≤ b) ((w4.setCell ⟨w.heap.size + 1, 0, none⟩ (.int .i64 kt)).setCell ⟨w.heap.size + 1, 1, none⟩ (.int .i64 g)) u4 L4 := by
            refine ⟨?_, fun y hy => ?_⟩
            · refine At.imp (S := fun b => w3.heap.size ≤ b) ?_ (fun b hb _ => by omega)
              repeat (refine At.setCell ?_ (by simp; omega) _)
              exact HT4.out.1
            · refine Good.imp (S := fun b => w3.heap.size ≤ b) ?_ (fun b hb _ => by omega)
              repeat (refine Good.setCell ?_ (by simp; omega) _)
              exact HT4.out.2 y hy
          have hbf : Below w.heap.size w ((w4.setCell ⟨w.heap.size + 1, 0, none⟩ (.int .i64 kt)).setCell ⟨w.heap.size + 1, 1, none⟩ (.int .i64 g)) := by
            repeat (first | exact hbe | refine Below.setCell ?_ (by simp) _)
          first
            | exact ⟨u4, rfl, L4, hfin, HP4.out, hbf⟩
            | exact ⟨u4, L4, rfl, hfin, HP4.out, hbf⟩
  · have hE : Sp.ulE C (pl L) a b s st = te := by unfold Sp.ulE; rw [if_neg (by rw [hte]; exact hz), hte]
    have hT : Sp.ulT C (pl L) a b s st = [] := by unfold Sp.ulT; rw [if_neg (by rw [hE]; exact hz)]
    have hH : Sp.ulH C (pl L) a b s st = (0, 0) := by unfold Sp.ulH; rw [if_neg (by rw [hE]; exact hz)]
    rw [hE, hT, hH]
    have hz' : (te != 0) = true := by simpa using hz
    clear hz hE hT hH hte hM hx
    go_enter Try.func18, Try.ntmps18
    obtain ⟨⟨a0, a1⟩, _⟩ := two_of HA0.out
    go_wp2_with fail
    rw [← hW]
    refine (toChange_any HCC.out _ L a b s st _ HV.out HOK.out HSM.out).mono ?_
    rintro e w1 ⟨rfl, hb1⟩
    rw [HTE.out.1, HTE.out.2]
    have HB1 : Hid (Below w.heap.size w w1) := HB0.out.trans (hb1.mono HB0.out.size)
    have HZ1 : Hid (w1.heap[w.heap.size + 1]? = some (BH 0 0)) := (hb1.block _ hwz).trans HZ0.out
    have hwz1 : w.heap.size + 1 < w1.heap.size := (Array.getElem?_eq_some_iff.1 HZ1.out).1
    clear hb1 hW a0 a1
    obtain ⟨⟨z0, z1⟩, zf⟩ := two_of HZ1.out
    go_wp2
    (try simp only [Exit.inBlock, Exit.then])
    refine bodyPost_ret (v := .tuple #[.slice none 0 0, .agg #[.int .i64 0, .int .i64 0], .int .i64 te]) ?_ rfl ?_
    · rw [results_tct rfl]
      go_simp
    · have hbe := HB1.out
      have hbs := hbe.size
      first
        | exact ⟨_, rfl, [], tab_nil _ _, rfl, by repeat (first | exact hbe | refine Below.setCell ?_ (by simp) _ | refine Below.alloc ?_ (by simp; omega) _)⟩
        | exact ⟨_, [], rfl, tab_nil _ _, rfl, by repeat (first | exact hbe | refine Below.setCell ?_ (by simp) _ | refine Below.alloc ?_ (by simp; omega) _)⟩
end Go.Proofs.Ytacghcoikekfeaa
/- RefBase -/
namespace Go.Proofs.Ytacghcoikekfeaa
open Go.ChangeShapes Go.WideShapes Go.ChangeAt Go.RowKit Go.Deep
set_option maxRecDepth 100000

end Go.Proofs.Ytacghcoikekfeaa
/- PlainS -/
namespace Go.Proofs.Ytacghcoikekfeaa
set_option maxRecDepth 100000
namespace It

theorem rootB_get {L : List Ino} (h : rootB L = true) : ∃ x, L[0]? = some x ∧ x.kind = 2 := by
  cases L with
  | nil => cases h
  | cons y l => exact ⟨y, rfl, of_decide_eq_true h⟩
theorem rootB_of {L : List Ino} {x : Ino} (h : L[0]? = some x) (hk : x.kind = 2) : rootB L = true := by
  cases L with
  | nil => simp at h
  | cons y l =>
    simp at h
    subst h
    exact decide_eq_true hk
theorem one_fresh {g k s : Int} (hg : 1 ≤ g ∧ g ≤ 1099511627776) (hk : k = 1 ∨ k = 2) (hs : 0 ≤ s ∧ s ≤ 1099511627776) : one (fresh g k s) = true := by
  have hr : Bl.right (-1) [] := trivial
  have he : Bl.endOf [] = 0 := by unfold Bl.endOf; rw [if_pos hr]; rfl
  rcases hk with rfl | rfl
  · rw [fresh, one_file hg (At.right_iff.2 (.inr ⟨⟨by omega, by omega⟩, hs, .inl ⟨rfl, by omega, by omega⟩⟩)), he]
    simp [hr]
  · rw [fresh, one_dir hg (At.right_iff.2 (.inr ⟨⟨by omega, by omega⟩, hs, .inr ⟨rfl, rfl⟩⟩))]
    rfl
theorem one_gone {g : Int} (hg : 1 ≤ g ∧ g ≤ 1099511627776) : one (gone g) = true := by
  rw [gone, one_free hg (At.right_iff.2 (.inl ⟨rfl, rfl, rfl, rfl⟩))]
  rfl
theorem put_at {L : List Ino} {no : Nat} {x : Ino} (h : no ≤ L.length) (j : Nat) : (put L no x)[j]? = if j = no then some x else L[j]? := by
  unfold put
  split
  · rename_i hlt
    rw [List.getElem?_set]
    by_cases hj : no = j
    · subst hj
      simp [hlt]
    · rw [if_neg hj, if_neg (fun e => hj e.symm)]
  · have : no = L.length := by omega
    subst this
    by_cases hj : j = L.length
    · subst hj
      simp
    · rw [if_neg hj]
      rcases Nat.lt_or_gt_of_ne hj with h1 | h1
      · rw [List.getElem?_append_left h1]
      · rw [List.getElem?_eq_none (by simp; omega), List.getElem?_eq_none (by omega)]
theorem right_put {L : List Ino} {no : Nat} {x : Ino} (hr : right L = true) (h : no ≤ L.length) (h24 : no < 24) (h1 : 1 ≤ no) (hx : one x = true) : right (put L no x) = true := by
  obtain ⟨hl, hroot, hall⟩ := right_iff.1 hr
  obtain ⟨y, hy, hyk⟩ := rootB_get hroot
  refine right_iff.2 ⟨?_, ?_, fun z hz => ?_⟩
  · rw [put_length]
    split <;> omega
  · refine rootB_of (x := y) ?_ hyk
    rw [put_at h, if_neg (by omega)]
    exact hy
  · obtain ⟨j, hj⟩ := List.mem_iff_getElem?.1 hz
    rw [put_at h] at hj
    split at hj
    · cases hj
      exact hx
    · exact hall z (List.mem_of_getElem? hj)
theorem names_at {L M : List Ino} {k : Nat} {gen : Int} (h : M[k]? = L[k]?) : names M k gen = names L k gen := by
  unfold names
  rw [show ((k : Int)).toNat = k from by omega, h]
theorem names_some {L : List Ino} {k : Nat} {gen : Int} {x : Ino} (h : L[k]? = some x) : names L k gen = decide (x.gen = gen ∧ x.kind ≠ 0) := by
  unfold names
  rw [show ((k : Int)).toNat = k from by omega, h, decide_eq_true (show (0 : Int) ≤ (k : Int) by omega)]
  rfl
theorem names_none {L : List Ino} {k : Nat} {gen : Int} (h : L[k]? = none) : names L k gen = false := by
  unfold names
  rw [show ((k : Int)).toNat = k from by omega, h]
  simp
/-- Handles, each of an inode that was made. -/
structure Inv (T : List Ino) (hs : List (Int × Int)) : Prop where
  right : right T = true
  nodup : hs.Nodup
  each : ∀ h ∈ hs, ∃ (k : Nat) (x : Ino), h.1 = (k : Int) ∧ 1 ≤ k ∧ T[k]? = some x ∧ h.2 ≤ x.gen
def gones (T : List Ino) (hs : List (Int × Int)) : List Bool := hs.map fun h => !names T h.1 h.2
theorem gones_length (T : List Ino) (hs : List (Int × Int)) : (gones T hs).length = hs.length := by simp [gones]
theorem gones_at {T : List Ino} {hs : List (Int × Int)} {i : Nat} {h : Int × Int} (hh : hs[i]? = some h) : (gones T hs)[i]? = some (!names T h.1 h.2) := by simp [gones, hh]
theorem right_new : right new = true := by decide
theorem inv_new : Inv new [] := ⟨right_new, List.nodup_nil, fun h hh => by cases hh⟩
theorem make_err {T : List Ino} (h : right T = true) {kind : Int} (hk : kind = 1 ∨ kind = 2) : makeErr T kind 0 = 0 ∨ makeErr T kind 0 = 407 := by
  have ha : argOk kind 0 = true := by unfold argOk; rw [decide_eq_true hk, decide_eq_true (by omega)]; rfl
  unfold makeErr
  rw [if_pos h, if_pos ha]
  split
  · exact .inr rfl
  · exact .inl rfl
theorem make_next {T : List Ino} {kind stamp : Int} (he : makeErr T kind stamp = 0) : right T = true ∧ argOk kind stamp = true ∧ (next T).1 ≠ 24 ∧ makeTab T kind stamp = put T (next T).1.toNat (fresh (next T).2 kind stamp) ∧ makeH T kind stamp = next T := by
  have h1 : makeTab T kind stamp = put T (next T).1.toNat (fresh (next T).2 kind stamp) := by unfold makeTab; rw [if_pos he]
  have h2 : makeH T kind stamp = next T := by unfold makeH; rw [if_pos he]
  unfold makeErr at he
  split at he
  · rename_i hr
    split at he
    · rename_i ha
      split at he
      · cases he
      · rename_i hn
        exact ⟨hr, ha, hn, h1, h2⟩
    · cases he
  · cases he
theorem right_len24 {T : List Ino} (h : right T = true) : 1 ≤ T.length ∧ T.length ≤ 24 := (right_iff.1 h).1
theorem next_good {T : List Ino} (h : right T = true) : 1 ≤ (next T).1 ∧ (1 ≤ (next T).2 ∧ (next T).2 ≤ 1099511627776) := by
  obtain ⟨hl, hroot, hall⟩ := right_iff.1 h
  obtain ⟨y, hy, hyk⟩ := rootB_get hroot
  rcases next_cases T with ⟨j, x, hx, hk, hg, e⟩ | e
  · have hb := one_bd (hall x (List.mem_of_getElem? hx))
    rw [e]
    refine ⟨?_, by show 1 ≤ x.gen + 1; omega, by show x.gen + 1 ≤ _; omega⟩
    have : j ≠ 0 := by
      rintro rfl
      rw [hy] at hx
      cases hx
      omega
    show 1 ≤ (j : Int)
    omega
  · rw [e]
    exact ⟨by show 1 ≤ (T.length : Int); omega, by show (1 : Int) ≤ 1; decide, by show (1 : Int) ≤ 1099511627776; decide⟩
theorem inv_make {T : List Ino} {hs : List (Int × Int)} (h : Inv T hs) {kind stamp : Int} (he : makeErr T kind stamp = 0) :
    Inv (makeTab T kind stamp) (hs ++ [makeH T kind stamp]) ∧ gones (makeTab T kind stamp) (hs ++ [makeH T kind stamp]) = gones T hs ++ [false] := by
  obtain ⟨hr, ha, hn, e1, e2⟩ := make_next he
  have hk : kind = 1 ∨ kind = 2 := by unfold argOk at ha; simp only [Bool.and_eq_true, decide_eq_true_eq] at ha; exact ha.1
  have hs0 : 0 ≤ stamp ∧ stamp ≤ 1099511627776 := by unfold argOk at ha; simp only [Bool.and_eq_true, decide_eq_true_eq] at ha; exact ha.2
  obtain ⟨hn1, hng⟩ := next_good hr
  obtain ⟨hb0, hb1⟩ := next_bd T
  have hlen := right_len24 hr
  rw [e1, e2]
  -- what holds of the handle that is made
  have key : ∀ g ∈ hs, g ≠ next T ∧ names (put T (next T).1.toNat (fresh (next T).2 kind stamp)) g.1 g.2 = names T g.1 g.2 ∧ ∃ (k : Nat) (x : Ino), g.1 = (k : Int) ∧ 1 ≤ k ∧ (put T (next T).1.toNat (fresh (next T).2 kind stamp))[k]? = some x ∧ g.2 ≤ x.gen := by
    intro g hg
    obtain ⟨k, x, hgk, hk1, hx, hgx⟩ := h.each g hg
    have hput := put_at (x := fresh (next T).2 kind stamp) (show (next T).1.toNat ≤ T.length by omega) k
    by_cases hkn : k = (next T).1.toNat
    · rw [if_pos hkn] at hput
      rcases next_cases T with ⟨j, y, hy, hyk, hyg, e⟩ | e
      · have hj : k = j := by rw [e] at hkn; simpa using hkn
        subst hj
        rw [hx] at hy
        cases hy
        have hg2 : (next T).2 = x.gen + 1 := by rw [e]
        refine ⟨fun e' => ?_, ?_, k, _, hgk, hk1, hput, by show g.2 ≤ (next T).2; omega⟩
        · rw [e'] at hgx
          omega
        · rw [hgk, names_some hput, names_some hx, decide_eq_false (by show ¬ ((next T).2 = g.2 ∧ kind ≠ 0); omega), decide_eq_false (by simp [hyk])]
      · have hkl : k < T.length := (List.getElem?_eq_some_iff.1 hx).1
        rw [e] at hkn
        simp at hkn
        omega
    · rw [if_neg hkn] at hput
      refine ⟨fun e' => ?_, by rw [hgk]; exact names_at hput, k, x, hgk, hk1, by rw [hput]; exact hx, hgx⟩
      rw [← e', hgk] at hkn
      simp at hkn
  have hnew := put_at (x := fresh (next T).2 kind stamp) (show (next T).1.toNat ≤ T.length by omega) (next T).1.toNat
  rw [if_pos rfl] at hnew
  have hcast : (((next T).1.toNat : Nat) : Int) = (next T).1 := by omega
  refine ⟨⟨?_, ?_, fun g hg => ?_⟩, ?_⟩
  · exact right_put hr (by omega) (by omega) (by omega) (one_fresh hng hk hs0)
  · rw [List.nodup_append]
    refine ⟨h.nodup, by simp, fun a ha b hb => ?_⟩
    simp at hb
    subst hb
    exact (key a ha).1
  · rcases List.mem_append.1 hg with hg | hg
    · exact (key g hg).2.2
    · simp at hg
      subst hg
      exact ⟨_, _, hcast.symm, by omega, hnew, Int.le_refl _⟩
  · unfold gones
    rw [List.map_append]
    congr 1
    · exact List.map_congr_left fun g hg => by rw [(key g hg).2.1]
    · have : names (put T (next T).1.toNat (fresh (next T).2 kind stamp)) (next T).1 (next T).2 = true := by
        have h1 := names_some (gen := (next T).2) hnew
        rw [hcast] at h1
        rw [h1]
        apply decide_eq_true
        refine ⟨rfl, ?_⟩
        show kind ≠ 0
        omega
      simp [this]
theorem find_err {T : List Ino} (h : right T = true) (a b : Int) : findErr T a b = if names T a b then 0 else 401 := by unfold findErr; rw [if_pos h]
theorem drop_stale {T : List Ino} (h : right T = true) {a b : Int} (hn : names T a b = false) : dropErr T a b = 401 := by
  have : findErr T a b = 401 := by rw [find_err h, hn]; rfl
  unfold dropErr
  rw [this]
  rfl
theorem inv_drop {T : List Ino} {hs : List (Int × Int)} (h : Inv T hs) {p : Nat} {hd : Int × Int} (hp : hs[p]? = some hd) (hn : names T hd.1 hd.2 = true) :
    dropErr T hd.1 hd.2 = 0 ∧ Inv (dropTab T hd.1 hd.2) hs ∧ gones (dropTab T hd.1 hd.2) hs = (gones T hs).set p true := by
  obtain ⟨k, x, hgk, hk1, hx, hgx⟩ := h.each hd (List.mem_of_getElem? hp)
  have hf : findErr T hd.1 hd.2 = 0 := by rw [find_err h.right, if_pos hn]
  have hde : dropErr T hd.1 hd.2 = 0 := by unfold dropErr; rw [if_pos hf, if_neg (by omega)]
  have hkl : k < T.length := (List.getElem?_eq_some_iff.1 hx).1
  have hlen := right_len24 h.right
  have hxn : x.gen = hd.2 ∧ x.kind ≠ 0 := by
    rw [hgk, names_some hx] at hn
    exact of_decide_eq_true hn
  have hdt : dropTab T hd.1 hd.2 = put T k (gone hd.2) := by
    unfold dropTab
    rw [if_pos hde, hgk]
    rfl
  have hput := put_at (x := gone hd.2) (show k ≤ T.length by omega)
  have hall := (right_iff.1 h.right).2.2
  have hbd := one_bd (hall x (List.mem_of_getElem? hx))
  have key : ∀ g ∈ hs, (names (put T k (gone hd.2)) g.1 g.2 = if g = hd then false else names T g.1 g.2) ∧ ∃ (j : Nat) (y : Ino), g.1 = (j : Int) ∧ 1 ≤ j ∧ (put T k (gone hd.2))[j]? = some y ∧ g.2 ≤ y.gen := by
    intro g hg
    obtain ⟨j, y, hgj, hj1, hy, hgy⟩ := h.each g hg
    have hpj := hput j
    by_cases hjk : j = k
    · subst hjk
      rw [if_pos rfl] at hpj
      rw [hx] at hy
      cases hy
      refine ⟨?_, j, _, hgj, hj1, hpj, by show g.2 ≤ hd.2; omega⟩
      rw [hgj, names_some hpj, decide_eq_false (by rintro ⟨_, h0⟩; exact h0 rfl)]
      split
      · rfl
      · rename_i hne
        rw [names_some hx, decide_eq_false]
        rintro ⟨h0, _⟩
        exact hne (Prod.ext (by rw [hgj, hgk]) (by omega))
    · rw [if_neg hjk] at hpj
      refine ⟨?_, j, y, hgj, hj1, by rw [hpj]; exact hy, hgy⟩
      rw [hgj, names_at hpj]
      split
      · rename_i e
        rw [e, hgk] at hgj
        omega
      · rfl
  refine ⟨hde, ⟨?_, h.nodup, fun g hg => by rw [hdt]; exact (key g hg).2⟩, ?_⟩
  · rw [hdt]
    exact right_put h.right (by omega) (by omega) (by omega) (one_gone (by omega))
  · rw [hdt]
    apply List.ext_getElem?
    intro i
    rw [List.getElem?_set]
    by_cases hi : i < hs.length
    · have hgi : hs[i]? = some hs[i] := List.getElem?_eq_getElem hi
      rw [gones_at hgi, gones_at hgi, (key _ (List.getElem_mem hi)).1]
      by_cases hpi : p = i
      · subst hpi
        have : hs[p] = hd := by rw [hgi] at hp; exact Option.some.inj hp
        rw [if_pos this, if_pos rfl, if_pos (by rw [gones_length]; exact hi)]
        rfl
      · rw [if_neg hpi, if_neg]
        intro e
        have h1 : hs[i]? = hs[p]? := by rw [hgi, hp, e]
        exact hpi ((List.getElem?_inj hi h.nodup).1 h1).symm
    · rw [List.getElem?_eq_none (by rw [gones_length]; omega), List.getElem?_eq_none (by rw [gones_length]; omega)]
      have hpl : p < hs.length := (List.getElem?_eq_some_iff.1 hp).1
      rw [if_neg (by omega)]
end It
end Go.Proofs.Ytacghcoikekfeaa
/- RefOne -/
namespace Go.Proofs.Ytacghcoikekfeaa
open Go.ChangeShapes Go.WideShapes Go.ChangeAt Go.RowKit Go.Deep It
set_option maxRecDepth 100000

theorem Bl.mem_end {l : List Bl.R} : ∀ {a : Int}, Bl.right a l → ∀ r ∈ l, r.1 + r.2.size ≤ Bl.lastEnd a l := by
  induction l with
  | nil => intro a _ r hr; cases hr
  | cons s l ih =>
    intro a h r hr
    rcases List.mem_cons.1 hr with rfl | hr
    · exact Bl.right_lastEnd h.2
    · exact ih h.2 r hr
theorem Bl.end_le {l : List Bl.R} (h : Bl.right (-1) l) {s : Int} (hs : 0 ≤ s) : Bl.endOf l ≤ s ↔ ∀ r ∈ l, r.1 + r.2.size ≤ s := by
  unfold Bl.endOf
  rw [if_pos h]
  rcases Bl.snoc_cases l with rfl | ⟨m, r, rfl⟩
  · exact ⟨fun _ r hr => (by cases hr), fun _ => hs⟩
  · have he : Bl.lastEnd 0 (m ++ [r]) = r.1 + r.2.size := by rw [Bl.lastEnd_append]; rfl
    have he' : Bl.lastEnd (-1) (m ++ [r]) = r.1 + r.2.size := by rw [Bl.lastEnd_append]; rfl
    rw [he]
    constructor
    · intro h1 q hq
      have := Bl.mem_end h q hq
      rw [he'] at this
      omega
    · intro h1
      exact h1 r (by simp)
end Go.Proofs.Ytacghcoikekfeaa
/- RefA -/
namespace Go.Proofs.Ytacghcoikekfeaa
open Go.ChangeShapes Go.WideShapes Go.ChangeAt Go.RowKit Go.Deep It
set_option maxRecDepth 100000

theorem It.not_right {L : List Ino} (h : It.right L = true → False) : It.right L = false := by
  cases hr : It.right L with
  | false => rfl
  | true => exact absurd hr h
set_option maxHeartbeats 2000000 in
theorem rnames_any {S : Nat → Prop} (v : Value) (L : List Rw) (a b : Int) (w : World) (hv : TabAt S w v L) :
    Calls Try.prog 11 #[v, .agg #[.int .i64 a, .int .i64 b]] w fun e w' => e = .returned (.bool (names (pl L) a b)) ∧ Below w.heap.size w w' := by
  obtain ⟨ao, cap, rfl, hm, hx⟩ := hv.open
  clear hv
  unfold maxLen at hm
  obtain ⟨n, hn⟩ : ∃ n, L.length = n := ⟨_, rfl⟩
  rw [hn] at hm ⊢
  have HN : Hid (L.length = n) := hn
  have HX : Hid (∀ i x, L[i]? = some x → (∃ b off, ao = some ⟨b, off, none⟩ ∧ b < w.heap.size ∧ eight w b (off + i * 8) x) ∧ Good S w x) := hx
  obtain ⟨W, hW⟩ : ∃ W, W = w.alloc (BH a b) := ⟨_, rfl⟩
  have HB0 : Hid (Below w.heap.size w W) := by show Below w.heap.size w W; rw [hW]; exact (Below.refl _ w).alloc (Nat.le_refl _) _
  have HA0 : Hid (W.heap[w.heap.size]? = some (BH a b)) := by show W.heap[w.heap.size]? = _; rw [hW]; exact heap_alloc_new _ _
  have hws : w.heap.size < W.heap.size := by rw [hW]; simp
  obtain ⟨res, hres⟩ : ∃ res, names (pl L) a b = res := ⟨_, rfl⟩
  have HRES : Hid (names (pl L) a b = res) := hres
  rw [hres]
  clear hn hx hres
  go_enter Try.func11, Try.ntmps11
  go_wp2
  rw [← hW]
  clear hW
  go_loopw [9] (fun i wr => ∃ k : Nat, k ≤ n ∧ i = .int .i64 k ∧ (∀ j x, j < k → L[j]? = some x → ¬ ((j : Int) = a ∧ x.i.gen = b ∧ x.i.kind ≠ 0)) ∧ Below W.heap.size W wr) (fun i _ => n - (intOf i).toNat)
  case atStart => exact ⟨0, Nat.zero_le _, rfl, fun j x hj => by omega, Below.refl _ _⟩
  case round =>
    obtain ⟨k, hk, rfl, hno, hbl⟩ := hrel
    have HNO : Hid (∀ j x, j < k → L[j]? = some x → ¬ ((j : Int) = a ∧ x.i.gen = b ∧ x.i.kind ≠ 0)) := hno
    have hsz := hbl.size
    have HBW : Hid (Below w.heap.size w wr) := HB0.out.trans (hbl.mono HB0.out.size)
    have HA1 : Hid (wr.heap[w.heap.size]? = some (BH a b)) := (hbl.block _ hws).trans HA0.out
    clear hno
    by_cases hlt : k < n
    · obtain ⟨y, hyk⟩ : ∃ y, L[k]? = some y := ⟨_, List.getElem?_eq_getElem (by rw [HN.out]; exact hlt)⟩
      obtain ⟨⟨b', off, rfl, hB, hc⟩, _⟩ := HX.out k y hyk
      obtain ⟨d0, d1, d2, d3, d4, d5, d6, d7⟩ := hc.below HBW.out hB
      have HYK : Hid (L[k]? = some y) := hyk
      have HNEXT : ¬ ((k : Int) = a ∧ y.i.gen = b ∧ y.i.kind ≠ 0) → Hid (∀ j x, j < k + 1 → L[j]? = some x → ¬ ((j : Int) = a ∧ x.i.gen = b ∧ x.i.kind ≠ 0)) := fun hne j x hj hx hq => by
        rcases Nat.lt_or_ge j k with h | h
        · exact HNO.out j x h hx hq
        · obtain rfl : j = k := by omega
          rw [HYK.out] at hx
          cases hx
          exact hne hq
      have HYES : ((k : Int) = a ∧ y.i.gen = b ∧ y.i.kind ≠ 0) → Hid (res = true) := fun hq => by
        show res = true
        rw [← HRES.out]
        exact It.names_iff.2 ⟨k, y.i, It.pl_get HYK.out, hq.1.symm, hq.2.1, hq.2.2⟩
      obtain ⟨⟨g, kk, l, s, t, rs, es, nx⟩, rp, rn, rc, ep, en, ec⟩ := y
      simp only at d0 d1 d2 d3 d4 d5 d6 d7 HNEXT HYES
      have HA2 : Hid ((wr.alloc (B8 g kk l s t (.slice rp rn rc) (.slice ep en ec) nx)).heap[w.heap.size]? = some (BH a b)) := (Below.heap_alloc _ _ _ (by omega)).trans HA1.out
      obtain ⟨⟨a0, a1⟩, _⟩ := two_of HA2.out
      have hlt' : (k : Int) < (n : Int) := by omega
      clear hyk hc hB HYK
      by_cases h1 : (k : Int) = a
      · by_cases h2 : g = b
        · by_cases h3 : kk = 0
          · have HN2 := HNEXT (fun h => h.2.2 h3)
            have h1' : ((k : Int) == a) = true := by simp [h1]
            have h2' : (g == b) = true := by simp [h2]
            have h3' : (kk != 0) = false := by simp [h3]
            clear h1 h2 h3 HNEXT HYES
            go_wp2
            go_roundw
            case rel => exact ⟨k + 1, by omega, by go_num, HN2.out, hbl.alloc hsz _⟩
            case measure => simp [intOf]; omega
          · have HE := HYES ⟨h1, h2, h3⟩
            have h1' : ((k : Int) == a) = true := by simp [h1]
            have h2' : (g == b) = true := by simp [h2]
            have h3' : (kk != 0) = true := by simp [h3]
            clear h1 h2 h3 HNEXT HYES
            go_wp2
            go_ret
            rw [HE.out]
            exact ⟨rfl, HBW.out.alloc HBW.out.size _⟩
        · have HN2 := HNEXT (fun h => h2 h.2.1)
          have h1' : ((k : Int) == a) = true := by simp [h1]
          have h2' : (g == b) = false := by simp [h2]
          clear h1 h2 HNEXT HYES
          go_wp2
          go_roundw
          case rel => exact ⟨k + 1, by omega, by go_num, HN2.out, hbl.alloc hsz _⟩
          case measure => simp [intOf]; omega
      · have HN2 := HNEXT (fun h => h1 h.1)
        have h1' : ((k : Int) == a) = false := by simp [h1]
        clear h1 HNEXT HYES
        go_wp2
        go_roundw
        case rel => exact ⟨k + 1, by omega, by go_num, HN2.out, hbl.alloc hsz _⟩
        case measure => simp [intOf]; omega
    · obtain rfl : k = n := by omega
      have HE : Hid (res = false) := by
        show res = false
        rw [← HRES.out]
        cases hq : names (pl L) a b with
        | false => rfl
        | true =>
          obtain ⟨j, y, hja, hy, hyg, hyk, hjl⟩ := It.named hq
          exact absurd ⟨hja.symm, hyg, hyk⟩ (HNO.out j y (by rw [← HN.out]; exact hjl) hy)
      go_wp2
      go_ret
      rw [HE.out]
      exact ⟨rfl, HBW.out⟩

end Go.Proofs.Ytacghcoikekfeaa
/- SRef1 -/
namespace Go.Proofs.Ytacghcoikekfeaa
open Go.ChangeShapes Go.WideShapes Go.ChangeAt Go.RowKit Go.Deep It
set_option maxRecDepth 100000
def Sp.chk (R : List Ino → Bool) (L : List Ino) : Int := if R L = true then 0 else 4
end Go.Proofs.Ytacghcoikekfeaa
/- FTwo -/
namespace Go.Proofs.Ytacghcoikekfeaa
open Go.ChangeShapes Go.WideShapes Go.ChangeAt Go.RowKit Go.Deep
set_option maxRecDepth 100000
namespace Fo
abbrev sa : ByteArray := ⟨#[97]⟩
abbrev sb : ByteArray := ⟨#[98]⟩
abbrev ea : Ent := (sa, 1, 1, 1)
abbrev eb : Ent := (sb, 2, 1, 1)
theorem ok_a : Nm.ok sa := ⟨by decide, by decide, fun h => by simp [sa] at h, fun h => by simp [sa] at h, fun i h _ => by
  have : i = 0 := by simp [ByteArray.size] at h; exact h
  subst this
  exact ⟨by show (97 : UInt8).toNat ≠ 47; decide, by show (97 : UInt8).toNat ≠ 0; decide⟩⟩
theorem ok_b : Nm.ok sb := ⟨by decide, by decide, fun h => by simp [sb] at h, fun h => by simp [sb] at h, fun i h _ => by
  have : i = 0 := by simp [ByteArray.size] at h; exact h
  subst this
  exact ⟨by show (98 : UInt8).toNat ≠ 47; decide, by show (98 : UInt8).toNat ≠ 0; decide⟩⟩
theorem ho_one : Ho 1 1 := by decide
theorem right_0 : Right [] 0 := ⟨by decide, fun i h => by simp at h, List.nodup_nil⟩
theorem good_a (l : List Ent) (next : Int) (h : 1 ≤ next) : good next (ea :: l) 0 := fun x hx => by
  simp at hx
  subst hx
  exact ⟨ok_a, ⟨by simp [lastC], h⟩, ho_one⟩
theorem right_1 : Right [ea] 1 := ⟨by decide, fun i h => by
  have : i = 0 := by simp at h; exact h
  subst this
  exact good_a [] 1 (by decide), by simp [apart]⟩
theorem right_2 : Right [ea, eb] 2 := ⟨by decide, fun i h => by
  simp at h
  rcases (show i = 0 ∨ i = 1 by omega) with rfl | rfl
  · exact good_a _ 2 (by decide)
  · intro x hx
    simp at hx
    subst hx
    exact ⟨ok_b, ⟨by simp [lastC], by simp⟩, ho_one⟩, by simp [apart]⟩
theorem right_3 : Right [eb] 2 := ⟨by decide, fun i h => by
  have : i = 0 := by simp at h; exact h
  subst this
  intro x hx
  simp at hx
  subst hx
  exact ⟨ok_b, ⟨by simp [lastC], by simp⟩, ho_one⟩, by simp [apart]⟩
theorem ask_zero {l : List Ent} {next : Int} {s : ByteArray} (h : Right l next) (k : Nm.ok s) : ask l next s = 0 := (ask_right (err_ok h)).trans (Nm.err_ok k)
theorem aa : called sa ea = true := by simp [called]
theorem ab : called sa eb = false := by simp [called, ByteArray.toList_eq]
theorem ba : called sb ea = false := by simp [called, ByteArray.toList_eq]
theorem bb : called sb eb = true := by simp [called]
theorem add1 : addErr [] 0 sa 1 1 = 0 := add_ok (ask_zero right_0 ok_a) ho_one (at_miss fun j y h => by simp at h) (by decide)
theorem add2 : addErr [ea] 1 sb 1 1 = 0 := add_ok (ask_zero right_1 ok_b) ho_one (at_miss fun j y h hy => by
  have : j = 0 := by simp at h; exact h
  subst this
  simp at hy
  subst hy
  exact ba) (by decide)
theorem rem1 : findErr [ea, eb] 2 sa = 0 ∧ plc [ea, eb] 2 sa = (0 : Nat) := findErr_hit (ask_zero right_2 ok_a) (at_hit (x := ea) rfl aa fun j y h => by omega)
theorem find1 : findErr [eb] 2 sb = 0 ∧ plc [eb] 2 sb = (0 : Nat) := findErr_hit (ask_zero right_3 ok_b) (at_hit (x := eb) rfl bb fun j y h => by omega)
theorem find1' : found [eb] 2 sb = eb := found_hit find1.1 find1.2 rfl
theorem find2 : findErr [eb] 2 sa = 402 := (findErr_miss (ask_zero right_3 ok_a) (at_miss fun j y h hy => by
  have : j = 0 := by simp at h; exact h
  subst this
  simp at hy
  subst hy
  exact ab)).1
end Fo
theorem hand_cells (w : World) : (w.alloc (BHf 1 1)).cell? ⟨w.heap.size, 0, none⟩ = some (.int .i64 1) ∧ (w.alloc (BHf 1 1)).cell? ⟨w.heap.size, 1, none⟩ = some (.int .i64 1) := by
  have hh := heap_alloc_new w (BHf 1 1)
  constructor <;> simp only [World.cell?, hh] <;> rfl
theorem small (x : Ent) (l : List Ent) (h : x.1.size ≤ 32 ∧ ∀ y ∈ l, y.1.size ≤ 32) : ∀ y ∈ x :: l, y.1.size ≤ maxLen := fun y hy => by
  rcases List.mem_cons.1 hy with rfl | hy
  · exact Nat.le_trans h.1 (by decide)
  · exact Nat.le_trans (h.2 y hy) (by decide)
end Go.Proofs.Ytacghcoikekfeaa
/- FRefA -/
namespace Go.Proofs.Ytacghcoikekfeaa
open Go.ChangeShapes Go.WideShapes Go.ChangeAt Go.RowKit Go.Deep
set_option maxRecDepth 100000
end Go.Proofs.Ytacghcoikekfeaa
/- FRefB -/
namespace Go.Proofs.Ytacghcoikekfeaa
open Go.ChangeShapes Go.WideShapes Go.ChangeAt Go.RowKit Go.Deep
set_option maxRecDepth 100000
namespace Fo
/-- Of the first k names each stands there first. -/
def firsts (l : List Ent) (k : Nat) : Prop := ∀ (i : Nat) x, i < k → l[i]? = some x → at' (called x.1) l = i
theorem called_iff {s : ByteArray} {x : Ent} : called s x = true ↔ x.1 = s := by
  unfold called
  rw [beq_iff_eq, ByteArray.toList_eq, ByteArray.toList_eq]
  constructor
  · intro h
    obtain ⟨⟨⟨a⟩⟩, c⟩ := x
    obtain ⟨⟨b⟩⟩ := s
    simp only at h
    simp [h]
  · rintro rfl
    rfl
theorem first_of_apart {l : List Ent} (h : apart l) {i : Nat} {x : Ent} (hx : l[i]? = some x) : at' (called x.1) l = i := by
  refine at_hit hx (called_iff.2 rfl) fun j y hj hy => ?_
  cases hc : called x.1 y
  · rfl
  · exfalso
    have e := called_iff.1 hc
    have hil := (List.getElem?_eq_some_iff.1 hx)
    have hjl := (List.getElem?_eq_some_iff.1 hy)
    have := (List.pairwise_iff_getElem.1 h) j i (by simpa using hjl.1) (by simpa using hil.1) hj
    apply this
    simp only [List.getElem_map, hil.2, hjl.2]
    exact e
theorem apart_of_firsts {l : List Ent} (h : firsts l l.length) : apart l := by
  refine List.pairwise_iff_getElem.2 fun i j hi hj hij e => ?_
  have hj' : j < l.length := by simpa using hj
  have hx : l[i]? = some (l[i]'(by omega)) := List.getElem?_eq_getElem _
  have hy : l[j]? = some (l[j]'hj') := List.getElem?_eq_getElem _
  have h1 := h i _ (by omega) hx
  have h2 := h j _ hj' hy
  simp only [List.getElem_map] at e
  rw [e, h2] at h1
  omega
theorem firsts_zero (l : List Ent) : firsts l 0 := fun i x h => by omega
theorem firsts_succ {l : List Ent} {k : Nat} {x : Ent} (h : firsts l k) (hx : l[k]? = some x) (hp : at' (called x.1) l = k) : firsts l (k + 1) := fun i y hi hy => by
  by_cases e : i = k
  · subst e
    rw [hx] at hy
    cases hy
    exact hp
  · exact h i y (by omega) hy
theorem prev_of {l : List Ent} {k : Nat} {y : Ent} (hy : l[k]? = some y) : lastC l (k + 1) = y.2.1 := lastC_succ hy
end Fo
theorem below_drewN {B : Nat} {w w' : World} (h : Below B w w') (q : Nat) : Below B w (w'.drewN q) := ⟨h.os, h.tape, h.output, h.size, h.block⟩
end Go.Proofs.Ytacghcoikekfeaa
/- FRefC -/
namespace Go.Proofs.Ytacghcoikekfeaa
open Go.ChangeShapes Go.WideShapes Go.ChangeAt Go.RowKit Go.Deep
set_option maxRecDepth 100000
end Go.Proofs.Ytacghcoikekfeaa
/- SRef2 -/
namespace Go.Proofs.Ytacghcoikekfeaa
open Go.ChangeShapes Go.WideShapes Go.ChangeAt Go.RowKit Go.Deep It
set_option maxRecDepth 100000
theorem setE {w : World} {A : Nat} {x : Ent} (h : w.heap[A]? = some BZE) : ((((w.setCell ⟨A, 0, none⟩ (.string x.1)).setCell ⟨A, 1, none⟩ (.int .i64 x.2.1)).setCell ⟨A, 2, none⟩ (.int .i64 x.2.2.1)).setCell ⟨A, 3, none⟩ (.int .i64 x.2.2.2)).heap[A]? = some (BE x) := by
  simp [World.setCell, Array.getElem?_modify, h]
end Go.Proofs.Ytacghcoikekfeaa
/- SRef3 -/
namespace Go.Proofs.Ytacghcoikekfeaa
open Go.ChangeShapes Go.WideShapes Go.ChangeAt Go.RowKit Go.Deep It
set_option maxRecDepth 100000
end Go.Proofs.Ytacghcoikekfeaa
/- SRef4 -/
namespace Go.Proofs.Ytacghcoikekfeaa
open Go.ChangeShapes Go.WideShapes Go.ChangeAt Go.RowKit Go.Deep It
set_option maxRecDepth 100000
end Go.Proofs.Ytacghcoikekfeaa
/- SRef5 -/
namespace Go.Proofs.Ytacghcoikekfeaa
open Go.ChangeShapes Go.WideShapes Go.ChangeAt Go.RowKit Go.Deep It
set_option maxRecDepth 100000
theorem Enc.flat_cell {α : Type} (E : Enc α) {l : List α} {k j : Nat} {x x' : α} {u : Value} (hk : l[k]? = some x) (hj : j < E.sz) (hc : E.cells x' = (E.cells x).set j u) : (E.flat l).set (k * E.sz + j) u = E.flat (l.set k x') := by
  have hlt := (List.getElem?_eq_some_iff.1 hk).1
  have h1 := E.flat_set l k x hlt
  have h2 := E.flat_set l k x' hlt
  have hx : l.set k x = l := by
    have : l[k] = x := (List.getElem?_eq_some_iff.1 hk).2
    rw [← this]
    exact List.set_getElem_self hlt
  rw [hx] at h1
  have hlen : ((E.flat l).take (k * E.sz)).length = k * E.sz := by
    rw [List.length_take, E.flat_length]
    exact Nat.min_eq_left (Nat.mul_le_mul_right _ (by omega))
  have hcl : (E.cells x).length = E.sz := E.len x
  rw [← h2, hc]
  generalize (E.flat l).take (k * E.sz) = A at *
  generalize (E.flat l).drop (k * E.sz + E.sz) = D at *
  rw [← h1, List.append_assoc, List.append_assoc, List.set_append_right _ _ (by omega), hlen, Nat.add_sub_cancel_left, List.set_append_left _ _ (by omega)]
theorem Row.cell {α : Type} {E : Enc α} {w : World} {B : Nat} {e : TypeId} {g n cap : Nat} {ls : List α} {k j : Nat} {x x' : α} {u : Value} (h : Row E w B e (.slice (some ⟨g, 0, none⟩) n cap) ls) (hk : ls[k]? = some x) (hj : j < E.sz) (hc : E.cells x' = (E.cells x).set j u) :
    Row E (w.setCell ⟨g, k * E.sz + j, none⟩ u) B e (.slice (some ⟨g, 0, none⟩) n cap) (ls.set k x') := by
  rcases h with ⟨h, _⟩ | ⟨g', cap', cur, hv, hB, hh, h1, h2, h3, h4⟩
  · cases h
  · simp only [Value.slice.injEq, Option.some.injEq, Addr.mk.injEq] at hv
    obtain ⟨⟨rfl, -, -⟩, rfl, rfl⟩ := hv
    refine .inr ⟨g, cap, cur.setIfInBounds (k * E.sz + j) u, by rw [List.length_set], hB, ?_, by rw [List.length_set]; exact h1, h2, by rw [Array.size_setIfInBounds]; exact h3, ?_⟩
    · simp [World.setCell, Array.getElem?_modify, hh]
    · rw [List.length_set, Array.toList_setIfInBounds, List.take_set, h4]
      exact E.flat_cell hk hj hc
end Go.Proofs.Ytacghcoikekfeaa
/- FPage -/
namespace Go.Proofs.Ytacghcoikekfeaa
open Go.ChangeShapes Go.WideShapes Go.ChangeAt Go.RowKit Go.Deep
set_option maxRecDepth 100000
namespace Fo
noncomputable def pageErr (l : List Ent) (next c n : Int) : Int := if err l next = 0 then (if 0 ≤ c ∧ (1 ≤ n ∧ n ≤ 64) then 0 else 1) else 4
noncomputable def page (l : List Ent) (next c n : Int) : List Ent := if pageErr l next c n = 0 ∧ 0 ≤ at' (past c) l then (l.drop (at' (past c) l).toNat).take n.toNat else []
theorem page_no {l : List Ent} {next c n e : Int} (h : pageErr l next c n = e) (he : e ≠ 0) : page l next c n = [] := by unfold page; rw [if_neg (fun k => he (h.symm.trans k.1))]
theorem page_miss {l : List Ent} {next c n : Int} (h : at' (past c) l = -1) : page l next c n = [] := by unfold page; rw [if_neg (fun k => by rw [h] at k; omega)]
theorem page_hit {l : List Ent} {next c n : Int} {k : Nat} (h : pageErr l next c n = 0) (hk : at' (past c) l = k) : page l next c n = (l.drop k).take n.toNat := by
  unfold page
  rw [if_pos ⟨h, by rw [hk]; omega⟩, hk]
  rfl
end Fo
theorem run_cut_lh (w : World) (a : Option Addr) (m cap k j : Nat) (hk : k ≤ j) (hj : j ≤ cap) : (Instr.slice 48 (.slice a m cap) (some (.int .i64 (k : Int))) (some (.int .i64 (j : Int))) none).run Try.prog w = .ok (sliced a k j cap EE.sz) w := by
  rw [run_slice_lh (P := Try.prog) w 48 a m cap Try.underlying48 .i64 .i64 (k : Int) (j : Int) (by omega) (by omega) (by omega)]
  rfl
end Go.Proofs.Ytacghcoikekfeaa
