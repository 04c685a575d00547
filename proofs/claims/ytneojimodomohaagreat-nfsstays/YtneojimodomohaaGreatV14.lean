/- Sp11, Sp12, Sp13, Sp14, Sp15, as one. -/
import Derived.Test.YtneojimodomohaaGreatV13
set_option maxHeartbeats 8000000
set_option maxRecDepth 100000
namespace Go.Proofs.YtneojimodomohaaGreat
open Go.ChangeShapes Go.WideShapes Go.ChangeAt Go.RowKit Go.Deep It
noncomputable def Sp.linkErr (C:List Ino->Int) (L:List Ino) (a b c d:Int) (s:ByteArray) (st:Int):Int :=
 if stErr C L st = 0 then (if findErr L a b = 0 then (if (findI L a b).kind = 2 then 405 else if nameErr L c d s = 0 then (if (findI L a b).links = 64 then 407 else 0) else nameErr L c d s) else findErr L a b) else stErr C L st
theorem refuseLink_any {C:List Ino->Int} (hC:ChkSaid C) {S:Nat->Prop} (v:Value) (L:List Rw) (a b c d:Int) (s:ByteArray) (st:Int) (w:World) (hv:TabAt S w v L) (hok:Sp.okN L) (hs:s.size<=maxLen) :
  Calls Tryz.prog 153 #[v,.agg #[.int .i64 a,.int .i64 b],.agg #[.int .i64 c,.int .i64 d],.string s,.int .i64 st] w fun e w'=>e = .returned (.int .i64 (Sp.linkErr C (pl L) a b c d s st))/\Bw w w':=by
 obtain ⟨W,hW⟩:=qF ((w.alloc (BH a b)).alloc (BH c d));have HB0:Hid (Bw w W):=by show Bw w W;rw [hW];exact (qG _ _).alloc (by simp) _
 have HA0:Hid (W.heap[w.heap.size]? = some (BH a b)/\W.heap[w.heap.size + 1]? = some (BH c d)):=by
  rw [hW];refine ⟨(Below.heap_alloc _ _ _ (by simp)).trans (heap_alloc_new _ _),?_⟩;have:=heap_alloc_new (w.alloc (BH a b)) (BH c d)
  rwa [show (w.alloc (BH a b)).heap.size = w.heap.size + 1 by simp] at this
 have hws:w.heap.size + 1 < W.heap.size:=by rw [hW];simp
 have HV:Hid (TabAt S W v L):=hv.up HB0.out;obtain ⟨ao,cap,rfl,_,_⟩:=hv.open;have HOK:Hid (Sp.okN L):=hok;have HSM:Hid (s.size<=maxLen):=hs;have HCC:Hid (ChkSaid C):=hC;clear hv hok hs hC;obtain ⟨r,hr⟩:=qE (Sp.linkErr C (pl L) a b c d s st);rw [hr];unfold Sp.linkErr at hr;obtain ⟨ce,hce⟩:=qE (Sp.stErr C (pl L) st);have HCE:Hid (Sp.stErr C (pl L) st = ce):=hce;obtain ⟨fe,hfe⟩:=qE (findErr (pl L) a b);have HFE:Hid (findErr (pl L) a b = fe):=hfe;obtain ⟨ne,hne⟩:=qE (Sp.nameErr (pl L) c d s);have HNE:Hid (Sp.nameErr (pl L) c d s = ne):=hne;rw [hce,hfe,hne] at hr;clear hce hfe hne
 by_cases hz:ce = 0
 ·rw [if_pos hz] at hr;subst hz
  by_cases hf:fe = 0
  ·rw [if_pos hf] at hr;subst hf
   by_cases hk:(findI (pl L) a b).kind = 2
   ·rw [if_pos hk] at hr;subst hr;have hk2:((findI (pl L) a b).kind == 2) = true:=by simp [hk]
    clear hk;go_enter Tryz.func153,Tryz.ntmps153;go_wp2_with fail;rw [← hW];refine (srefuse_any HCC.out _ L st _ HV.out HOK.out).mono ?_;rintro e w1 ⟨rfl,hb1⟩;rw [HCE.out];have HB1:Hid (Bw w w1):=HB0.out.trans (hb1.mono HB0.out.size);have HA1:Hid (w1.heap[w.heap.size]? = some (BH a b)/\w1.heap[w.heap.size + 1]? = some (BH c d)):=⟨(hb1.block _ (by omega)).trans HA0.out.1,(hb1.block _ (by omega)).trans HA0.out.2⟩;have hws1:w.heap.size + 1 < w1.heap.size:=by have:=hb1.size;omega
    have HV1:Hid (TabAt S w1 (.slice ao L.length cap) L):=HV.out.up hb1;obtain ⟨⟨a0,a1⟩,_⟩:=two_of HA1.out.1;clear hb1 hW HV HA0;go_wp2_with fail;refine (find_any _ L a b _ HV1.out).mono ?_;rintro e w2 ⟨x,rfl,hxi,-,hb2⟩;rw [HFE.out];have HB2:Hid (Bw w w2):=HB1.out.trans (hb2.mono HB1.out.size);have HA2:Hid (w2.heap[w.heap.size + 1]? = some (BH c d)):=(hb2.block _ hws1).trans HA1.out.2;have hws2:w.heap.size + 1 < w2.heap.size:=by have:=hb2.size;omega
    have HV2:Hid (TabAt S w2 (.slice ao L.length cap) L):=HV1.out.up hb2;have HK:Hid (x.i.kind = (findI (pl L) a b).kind/\x.i.links = (findI (pl L) a b).links):=by rw [hxi];exact ⟨rfl,rfl⟩
    have hkk:(x.i.kind == 2) = true:=by rw [HK.out.1];exact hk2
    obtain ⟨⟨q0,q1,q2,q3,q4,q5,q6,q7⟩,-⟩:=eight_of (heap_alloc_new w2 (BIx x));clear hb2 a0 a1 hxi;go_wp2_with fail;refine (isDir_any x _).mono ?_;rintro e w3 ⟨rfl,hw3⟩;rw [hkk];have hb3:Bw w2 w3:=by rw [hw3];exact (qG _ _).alloc (by simp) _
    have hb3':Below (w2.alloc (BIx x)).heap.size (w2.alloc (BIx x)) w3:=by rw [hw3];exact qG _ _
    have HB3:Hid (Bw w w3):=HB2.out.trans (hb3.mono HB2.out.size);clear hb3 hb3' hw3 q0 q1 q2 q3 q4 q5 q6 q7;go_wp2;go_ret;exact ⟨rfl,HB3.out⟩
   ·rw [if_neg hk] at hr;have hk2:((findI (pl L) a b).kind == 2) = false:=beq_eq_false_iff_ne.2 hk;clear hk
    by_cases hn:ne = 0
    ·rw [if_pos hn] at hr;subst hn
     by_cases hl:(findI (pl L) a b).links = 64
     ·rw [if_pos hl] at hr;subst hr;have hl2:((findI (pl L) a b).links == 64) = true:=by simp [hl]
      clear hl;go_enter Tryz.func153,Tryz.ntmps153;go_wp2_with fail;rw [← hW];refine (srefuse_any HCC.out _ L st _ HV.out HOK.out).mono ?_;rintro e w1 ⟨rfl,hb1⟩;rw [HCE.out];have HB1:Hid (Bw w w1):=HB0.out.trans (hb1.mono HB0.out.size);have HA1:Hid (w1.heap[w.heap.size]? = some (BH a b)/\w1.heap[w.heap.size + 1]? = some (BH c d)):=⟨(hb1.block _ (by omega)).trans HA0.out.1,(hb1.block _ (by omega)).trans HA0.out.2⟩;have hws1:w.heap.size + 1 < w1.heap.size:=by have:=hb1.size;omega
      have HV1:Hid (TabAt S w1 (.slice ao L.length cap) L):=HV.out.up hb1;obtain ⟨⟨a0,a1⟩,_⟩:=two_of HA1.out.1;clear hb1 hW HV HA0;go_wp2_with fail;refine (find_any _ L a b _ HV1.out).mono ?_;rintro e w2 ⟨x,rfl,hxi,-,hb2⟩;rw [HFE.out];have HB2:Hid (Bw w w2):=HB1.out.trans (hb2.mono HB1.out.size);have HA2:Hid (w2.heap[w.heap.size + 1]? = some (BH c d)):=(hb2.block _ hws1).trans HA1.out.2;have hws2:w.heap.size + 1 < w2.heap.size:=by have:=hb2.size;omega
      have HV2:Hid (TabAt S w2 (.slice ao L.length cap) L):=HV1.out.up hb2;have HK:Hid (x.i.kind = (findI (pl L) a b).kind/\x.i.links = (findI (pl L) a b).links):=by rw [hxi];exact ⟨rfl,rfl⟩
      have hkk:(x.i.kind == 2) = false:=by rw [HK.out.1];exact hk2
      obtain ⟨⟨q0,q1,q2,q3,q4,q5,q6,q7⟩,-⟩:=eight_of (heap_alloc_new w2 (BIx x));clear hb2 a0 a1 hxi;go_wp2_with fail;refine (isDir_any x _).mono ?_;rintro e w3 ⟨rfl,hw3⟩;rw [hkk];have hb3:Bw w2 w3:=by rw [hw3];exact (qG _ _).alloc (by simp) _
      have hb3':Below (w2.alloc (BIx x)).heap.size (w2.alloc (BIx x)) w3:=by rw [hw3];exact qG _ _
      have HB3:Hid (Bw w w3):=HB2.out.trans (hb3.mono HB2.out.size);have HX3:Hid (w3.heap[w2.heap.size]? = some (BIx x)):=(hb3'.block _ (by simp)).trans (heap_alloc_new w2 (BIx x));have hws3:w2.heap.size < w3.heap.size:=(qL HX3.out);have HV3:Hid (TabAt S w3 (.slice ao L.length cap) L):=HV2.out.up hb3;obtain ⟨⟨a0,a1⟩,_⟩:=two_of ((hb3.block _ hws2).trans HA2.out);clear hb3 hb3' hw3 q0 q1 q2 q3 q4 q5 q6 q7;go_wp2_with fail;refine (refuseName_any _ L c d s _ HV3.out HOK.out HSM.out).mono ?_;rintro e w4 ⟨rfl,hb4⟩;rw [HNE.out];have HB4:Hid (Bw w w4):=HB3.out.trans (hb4.mono HB3.out.size);have hll:(x.i.links == 64) = true:=by rw [HK.out.2];exact hl2
      obtain ⟨⟨q0,q1,q2,q3,q4,q5,q6,q7⟩,-⟩:=eight_of ((hb4.block _ hws3).trans HX3.out);clear hb4 a0 a1;go_wp2;go_ret;exact ⟨rfl,HB4.out⟩
     ·rw [if_neg hl] at hr;subst hr;have hl2:((findI (pl L) a b).links == 64) = false:=beq_eq_false_iff_ne.2 hl;clear hl;go_enter Tryz.func153,Tryz.ntmps153;go_wp2_with fail;rw [← hW];refine (srefuse_any HCC.out _ L st _ HV.out HOK.out).mono ?_;rintro e w1 ⟨rfl,hb1⟩;rw [HCE.out];have HB1:Hid (Bw w w1):=HB0.out.trans (hb1.mono HB0.out.size);have HA1:Hid (w1.heap[w.heap.size]? = some (BH a b)/\w1.heap[w.heap.size + 1]? = some (BH c d)):=⟨(hb1.block _ (by omega)).trans HA0.out.1,(hb1.block _ (by omega)).trans HA0.out.2⟩;have hws1:w.heap.size + 1 < w1.heap.size:=by have:=hb1.size;omega
      have HV1:Hid (TabAt S w1 (.slice ao L.length cap) L):=HV.out.up hb1;obtain ⟨⟨a0,a1⟩,_⟩:=two_of HA1.out.1;clear hb1 hW HV HA0;go_wp2_with fail;refine (find_any _ L a b _ HV1.out).mono ?_;rintro e w2 ⟨x,rfl,hxi,-,hb2⟩;rw [HFE.out];have HB2:Hid (Bw w w2):=HB1.out.trans (hb2.mono HB1.out.size);have HA2:Hid (w2.heap[w.heap.size + 1]? = some (BH c d)):=(hb2.block _ hws1).trans HA1.out.2;have hws2:w.heap.size + 1 < w2.heap.size:=by have:=hb2.size;omega
      have HV2:Hid (TabAt S w2 (.slice ao L.length cap) L):=HV1.out.up hb2;have HK:Hid (x.i.kind = (findI (pl L) a b).kind/\x.i.links = (findI (pl L) a b).links):=by rw [hxi];exact ⟨rfl,rfl⟩
      have hkk:(x.i.kind == 2) = false:=by rw [HK.out.1];exact hk2
      obtain ⟨⟨q0,q1,q2,q3,q4,q5,q6,q7⟩,-⟩:=eight_of (heap_alloc_new w2 (BIx x));clear hb2 a0 a1 hxi;go_wp2_with fail;refine (isDir_any x _).mono ?_;rintro e w3 ⟨rfl,hw3⟩;rw [hkk];have hb3:Bw w2 w3:=by rw [hw3];exact (qG _ _).alloc (by simp) _
      have hb3':Below (w2.alloc (BIx x)).heap.size (w2.alloc (BIx x)) w3:=by rw [hw3];exact qG _ _
      have HB3:Hid (Bw w w3):=HB2.out.trans (hb3.mono HB2.out.size);have HX3:Hid (w3.heap[w2.heap.size]? = some (BIx x)):=(hb3'.block _ (by simp)).trans (heap_alloc_new w2 (BIx x));have hws3:w2.heap.size < w3.heap.size:=(qL HX3.out);have HV3:Hid (TabAt S w3 (.slice ao L.length cap) L):=HV2.out.up hb3;obtain ⟨⟨a0,a1⟩,_⟩:=two_of ((hb3.block _ hws2).trans HA2.out);clear hb3 hb3' hw3 q0 q1 q2 q3 q4 q5 q6 q7;go_wp2_with fail;refine (refuseName_any _ L c d s _ HV3.out HOK.out HSM.out).mono ?_;rintro e w4 ⟨rfl,hb4⟩;rw [HNE.out];have HB4:Hid (Bw w w4):=HB3.out.trans (hb4.mono HB3.out.size);have hll:(x.i.links == 64) = false:=by rw [HK.out.2];exact hl2
      obtain ⟨⟨q0,q1,q2,q3,q4,q5,q6,q7⟩,-⟩:=eight_of ((hb4.block _ hws3).trans HX3.out);clear hb4 a0 a1;go_wp2;go_ret;exact ⟨rfl,HB4.out⟩
    ·rw [if_neg hn] at hr;subst hr;have hn':(ne != 0) = true:=by simpa using hn
     clear hn;go_enter Tryz.func153,Tryz.ntmps153;go_wp2_with fail;rw [← hW];refine (srefuse_any HCC.out _ L st _ HV.out HOK.out).mono ?_;rintro e w1 ⟨rfl,hb1⟩;rw [HCE.out];have HB1:Hid (Bw w w1):=HB0.out.trans (hb1.mono HB0.out.size);have HA1:Hid (w1.heap[w.heap.size]? = some (BH a b)/\w1.heap[w.heap.size + 1]? = some (BH c d)):=⟨(hb1.block _ (by omega)).trans HA0.out.1,(hb1.block _ (by omega)).trans HA0.out.2⟩;have hws1:w.heap.size + 1 < w1.heap.size:=by have:=hb1.size;omega
     have HV1:Hid (TabAt S w1 (.slice ao L.length cap) L):=HV.out.up hb1;obtain ⟨⟨a0,a1⟩,_⟩:=two_of HA1.out.1;clear hb1 hW HV HA0;go_wp2_with fail;refine (find_any _ L a b _ HV1.out).mono ?_;rintro e w2 ⟨x,rfl,hxi,-,hb2⟩;rw [HFE.out];have HB2:Hid (Bw w w2):=HB1.out.trans (hb2.mono HB1.out.size);have HA2:Hid (w2.heap[w.heap.size + 1]? = some (BH c d)):=(hb2.block _ hws1).trans HA1.out.2;have hws2:w.heap.size + 1 < w2.heap.size:=by have:=hb2.size;omega
     have HV2:Hid (TabAt S w2 (.slice ao L.length cap) L):=HV1.out.up hb2;have HK:Hid (x.i.kind = (findI (pl L) a b).kind/\x.i.links = (findI (pl L) a b).links):=by rw [hxi];exact ⟨rfl,rfl⟩
     have hkk:(x.i.kind == 2) = false:=by rw [HK.out.1];exact hk2
     obtain ⟨⟨q0,q1,q2,q3,q4,q5,q6,q7⟩,-⟩:=eight_of (heap_alloc_new w2 (BIx x));clear hb2 a0 a1 hxi;go_wp2_with fail;refine (isDir_any x _).mono ?_;rintro e w3 ⟨rfl,hw3⟩;rw [hkk];have hb3:Bw w2 w3:=by rw [hw3];exact (qG _ _).alloc (by simp) _
     have hb3':Below (w2.alloc (BIx x)).heap.size (w2.alloc (BIx x)) w3:=by rw [hw3];exact qG _ _
     have HB3:Hid (Bw w w3):=HB2.out.trans (hb3.mono HB2.out.size);have HX3:Hid (w3.heap[w2.heap.size]? = some (BIx x)):=(hb3'.block _ (by simp)).trans (heap_alloc_new w2 (BIx x));have hws3:w2.heap.size < w3.heap.size:=(qL HX3.out);have HV3:Hid (TabAt S w3 (.slice ao L.length cap) L):=HV2.out.up hb3;obtain ⟨⟨a0,a1⟩,_⟩:=two_of ((hb3.block _ hws2).trans HA2.out);clear hb3 hb3' hw3 q0 q1 q2 q3 q4 q5 q6 q7;go_wp2_with fail;refine (refuseName_any _ L c d s _ HV3.out HOK.out HSM.out).mono ?_;rintro e w4 ⟨rfl,hb4⟩;rw [HNE.out];have HB4:Hid (Bw w w4):=HB3.out.trans (hb4.mono HB3.out.size);clear hb4 a0 a1;go_wp2;go_ret;exact ⟨rfl,HB4.out⟩
  ·rw [if_neg hf] at hr;subst hr;have hf':(fe != 0) = true:=by simpa using hf
   clear hf;go_enter Tryz.func153,Tryz.ntmps153;go_wp2_with fail;rw [← hW];refine (srefuse_any HCC.out _ L st _ HV.out HOK.out).mono ?_;rintro e w1 ⟨rfl,hb1⟩;rw [HCE.out];have HB1:Hid (Bw w w1):=HB0.out.trans (hb1.mono HB0.out.size);have HA1:Hid (w1.heap[w.heap.size]? = some (BH a b)/\w1.heap[w.heap.size + 1]? = some (BH c d)):=⟨(hb1.block _ (by omega)).trans HA0.out.1,(hb1.block _ (by omega)).trans HA0.out.2⟩;have hws1:w.heap.size + 1 < w1.heap.size:=by have:=hb1.size;omega
   have HV1:Hid (TabAt S w1 (.slice ao L.length cap) L):=HV.out.up hb1;obtain ⟨⟨a0,a1⟩,_⟩:=two_of HA1.out.1;clear hb1 hW HV HA0;go_wp2_with fail;refine (find_any _ L a b _ HV1.out).mono ?_;rintro e w2 ⟨x,rfl,hxi,-,hb2⟩;rw [HFE.out];have HB2:Hid (Bw w w2):=HB1.out.trans (hb2.mono HB1.out.size);have HA2:Hid (w2.heap[w.heap.size + 1]? = some (BH c d)):=(hb2.block _ hws1).trans HA1.out.2;have hws2:w.heap.size + 1 < w2.heap.size:=by have:=hb2.size;omega
   have HV2:Hid (TabAt S w2 (.slice ao L.length cap) L):=HV1.out.up hb2;clear hb2 a0 a1 hxi;go_wp2;go_ret;exact ⟨rfl,HB2.out.alloc HB2.out.size _⟩
 ·rw [if_neg hz] at hr;subst hr;have hz':(ce != 0) = true:=by simpa using hz
  clear hz;go_enter Tryz.func153,Tryz.ntmps153;go_wp2_with fail;rw [← hW];refine (srefuse_any HCC.out _ L st _ HV.out HOK.out).mono ?_;rintro e w1 ⟨rfl,hb1⟩;rw [HCE.out];have HB1:Hid (Bw w w1):=HB0.out.trans (hb1.mono HB0.out.size);clear hb1 hW HV HA0;go_wp2;go_ret;exact ⟨rfl,HB1.out⟩
namespace Sp
theorem fold_ge (L:List Ino):∀ m:Int,m<=L.foldl (fun m x=>max m x.stamp) m/\∀ x∈L,x.stamp<=L.foldl (fun m x=>max m x.stamp) m:=by
  induction L with
  | nil=>exact fun m=>⟨Int.le_refl _,fun x hx=>by cases hx⟩
  | cons y l ih =>
    intro m;obtain ⟨h1,h2⟩:=ih (max m y.stamp);refine ⟨Int.le_trans (by omega) h1,fun x hx=>?_⟩;rcases List.mem_cons.1 hx with rfl | hx
    · exact Int.le_trans (by omega) h1
    · exact h2 x hx
theorem top_ge {L:List Ino} {x:Ino} (h:x∈L):x.stamp<=top L:=(fold_ge L 0).2 x h
theorem top_nonneg (L:List Ino):0<=top L:=(fold_ge L 0).1
theorem attr_of {L:List Ino} (hr:It.right L = true) {x:Ino} (h:x∈L):At.right x.kind x.links x.size x.stamp = true:=by
  have:=(It.right_iff.1 hr).2.2 x h;unfold It.one at this;simp only [Bool.and_eq_true] at this;exact this.2.1
theorem grow_ok {L:List Ino} {k:Nat} {x:Ino} {st n:Int} (hr:It.right L = true) (hx:L[k]? = some x) (hk:x.kind≠0) (hs:top L<=st/\st<=1099511627776) (hn:0<=n/\n<=1048576):At.growErr x.kind x.links x.size x.stamp n st = 0:=by
  unfold At.growErr;rw [if_pos (attr_of hr (List.mem_of_getElem? hx)),if_pos ⟨Int.le_trans (top_ge (List.mem_of_getElem? hx)) hs.1,hs.2⟩,if_neg hk,if_pos hn]
theorem link_ok {L:List Ino} {k:Nat} {x:Ino} {st n:Int} (hr:It.right L = true) (hx:L[k]? = some x) (hk:x.kind = 1) (hs:top L<=st/\st<=1099511627776) (hn:(n = 1/\x.links < 64)∨(n = -1/\0 < x.links)):At.linkErr x.kind x.links x.size x.stamp n st = 0:=by
  have ha:=attr_of hr (List.mem_of_getElem? hx);have hp:=At.right_iff.1 ha;unfold At.rightP at hp;unfold At.linkErr;rw [if_pos ha,if_pos ⟨by omega,Int.le_trans (top_ge (List.mem_of_getElem? hx)) hs.1,hs.2⟩,if_pos hk,if_neg (by omega),if_neg (by omega)]
theorem find_get {L : List Ino} {a b : Int} (h : findErr L a b = 0) : ∃ (k : Nat) (x : Ino), a = k ∧ L[k]? = some x ∧ x.gen = b ∧ x.kind ≠ 0 ∧ findI L a b = x ∧ It.right L = true := by
  have h0:=h;unfold findErr at h
  by_cases hr:It.right L = true
  · rw [if_pos hr] at h
    by_cases hn:names L a b = true
    · unfold names at hn
      simp only [Bool.and_eq_true,decide_eq_true_eq] at hn;obtain ⟨ha,hm⟩:=hn
      cases hx:L[a.toNat]? with
      | none=>rw [hx] at hm;cases hm
      | some x =>
        rw [hx] at hm;simp only [decide_eq_true_eq] at hm;refine ⟨a.toNat,x,by omega,hx,hm.1,hm.2,?_,hr⟩;unfold findI;rw [if_pos h0,hx];rfl
    · rw [if_neg hn] at h
      exact absurd h (by decide)
  · rw [if_neg hr] at h
    exact absurd h (by decide)
theorem dir_get {L : List Ino} {a b : Int} (h : dirErr L a b = 0) : ∃ (k : Nat) (x : Ino), a = k ∧ L[k]? = some x ∧ x.gen = b ∧ x.kind = 2 ∧ dirEnts L a b = x.ents ∧ dirNext L a b = x.next ∧ findErr L a b = 0 ∧ It.right L = true := by
  have h0:=h;unfold dirErr at h
  by_cases hf:findErr L a b = 0
  · rw [if_pos hf] at h
    by_cases hk:(findI L a b).kind = 2
    · obtain ⟨k, x, hk1, hx, hg, -, hi, hr⟩ := find_get hf
      rw [hi] at hk;refine ⟨k,x,hk1,hx,hg,hk,?_,?_,hf,hr⟩
      · unfold dirEnts
        rw [if_pos h0,hi]
      · unfold dirNext
        rw [if_pos h0,hi]
    · rw [if_neg hk] at h
      exact absurd h (by decide)
  · rw [if_neg hf] at h
    exact absurd h hf
theorem pl_some {L:List Rw} {k:Nat} {x:Ino} (h:(pl L)[k]? = some x):∃ y:Rw,L[k]? = some y/\y.i = x:=by
  rw [List.getElem?_map] at h
  cases hy:L[k]? with
  | none=>rw [hy] at h;cases h
  | some y =>
    rw [hy] at h;exact ⟨y,rfl,by simpa using h⟩
end Sp
namespace Sp
theorem right_set {L : List Ino} {k : Nat} {x y : Ino} (hr : It.right L = true) (hx : L[k]? = some x) (hy : one y = true) (hk : y.kind = x.kind) : It.right (L.set k y) = true := by
  obtain ⟨hl,h0,ha⟩:=It.right_iff.1 hr;refine It.right_iff.2 ⟨by simpa using hl,?_,fun z hz=>?_⟩
  · cases L with
    | nil=>simp at hx
    | cons z l =>
      cases k with
      | zero =>
        simp at hx;subst hx;simp only [List.set_cons_zero,rootB,decide_eq_true_eq] at h0 ⊢;rw [hk];exact h0
      | succ k =>
        simp only [List.set_cons_succ,rootB] at h0 ⊢;exact h0
  · rcases List.mem_or_eq_of_mem_set hz with h | rfl
    · exact ha z h
    · exact hy
theorem put_set {L:List Ino} {k:Nat} {x y:Ino} (hx:L[k]? = some x):put L k y = L.set k y:=by
  unfold put;rw [if_pos (List.getElem?_eq_some_iff.1 hx).1]
theorem putTab_set {L:List Ino} {k:Nat} {b:Int} {x y:Ino} (hf:findErr L k b = 0) (hx:L[k]? = some x) (hg:y.gen = b) (h0:y.kind≠0) (hy:one y = true) (hk:y.kind = x.kind):putErr L k b y = 0/\putTab L k b y = L.set k y:=by
  obtain ⟨_,_,_,_,_,_,_,hr⟩:=find_get hf;have e:put L ((k:Int)).toNat y = L.set k y:=by rw [show ((k:Int)).toNat = k by omega];exact put_set hx
  have h:putErr L k b y = 0:=by
    unfold putErr;rw [if_pos hf,if_pos ⟨hg,h0⟩,e,if_pos (right_set hr hx hy hk)]
  exact ⟨h,by unfold putTab;rw [if_pos h,e]⟩
theorem one_iff_dir {x:Ino} (hk:x.kind = 2):one x = true ↔ (1<=x.gen/\x.gen<=1099511627776)/\At.right x.kind x.links x.size x.stamp = true/\x.runs = []:=by
  unfold one;rw [if_pos hk];simp
theorem one_filled {x:Ino} {es:List Ent} {nx st:Int} (h:one x = true) (hk:x.kind = 2) (hs:0<=st/\st<=1099511627776) (hn:es.length<=1048576):one (filled x es nx st) = true:=by
  obtain ⟨hg,ha,hr⟩:=(one_iff_dir hk).1 h;refine (one_iff_dir (x:=filled x es nx st) hk).2 ⟨hg,?_,hr⟩;have hp:=At.right_iff.1 ha;refine At.right_iff.2 ?_;show At.rightP x.kind x.links es.length st;unfold At.rightP at hp ⊢;omega
theorem one_linked {x:Ino} {n st:Int} (h:one x = true) (hk:x.kind = 1) (hs:0<=st/\st<=1099511627776) (hn:0<=x.links + n/\x.links + n<=64):one (linked x n st) = true:=by
  unfold one at h ⊢;simp only [Bool.and_eq_true] at h ⊢;obtain ⟨hg,ha,hr⟩:=h;refine ⟨hg,?_,hr⟩;have hp:=At.right_iff.1 ha;refine At.right_iff.2 ?_;show At.rightP x.kind (x.links + n) x.size st;unfold At.rightP at hp ⊢;omega
end Sp
namespace Sp
def ChkMeans (C:List Ino->Int):Prop:=∀ L,C L = 0->It.right L = true/\folds L/\(∀ x∈L,x.ents.length<=1536)/\∀ x∈L,∀ e∈x.ents,findErr L e.2.2.1 e.2.2.2 = 0/\1<=(findI L e.2.2.1 e.2.2.2).links/\e.2.2.1≠0
theorem stErr_zero {C:List Ino->Int} {L:List Ino} {st:Int} (h:stErr C L st = 0):C L = 0/\top L<=st/\st<=1099511627776:=by
 unfold stErr at h
 by_cases hc:C L = 0
 ·rw [if_pos hc] at h
  by_cases hs:top L<=st/\st<=1099511627776
  ·exact ⟨hc,hs⟩
  ·rw [if_neg hs] at h;exact absurd h (by decide)
 ·rw [if_neg hc] at h;exact absurd h hc
theorem dirErr_four (L:List Ino) (a b:Int):dirErr L a b = 0∨dirErr L a b = 404∨dirErr L a b = 401∨dirErr L a b = 4:=by
 unfold dirErr findErr
 repeat' split
 all_goals omega
theorem nameErr_zero {L:List Ino} {a b:Int} {s:ByteArray} (h:nameErr L a b s = 0):dirErr L a b = 0/\lookErr L a b s = 402:=by
 unfold nameErr at h
 by_cases h0:lookErr L a b s = 0
 ·rw [if_pos h0] at h;exact absurd h (by decide)
 ·rw [if_neg h0] at h
  by_cases h2:lookErr L a b s = 402
  ·refine ⟨?_,h2⟩;have h3:=h2;unfold lookErr at h3
   by_cases hd:dirErr L a b = 0
   ·exact hd
   ·rw [if_neg hd] at h3;have:=dirErr_four L a b;omega
  ·rw [if_neg h2] at h;exact absurd h h0
theorem linkErr_zero {C:List Ino->Int} {L:List Ino} {a b c d st:Int} {s:ByteArray} (h:linkErr C L a b c d s st = 0) :
  (C L = 0/\top L<=st/\st<=1099511627776)/\findErr L a b = 0/\(findI L a b).kind≠2/\(findI L a b).links≠64/\dirErr L c d = 0:=by
 unfold linkErr at h
 by_cases hs:stErr C L st = 0
 ·rw [if_pos hs] at h
  by_cases hf:findErr L a b = 0
  ·rw [if_pos hf] at h
   by_cases hk:(findI L a b).kind = 2
   ·rw [if_pos hk] at h;exact absurd h (by decide)
   ·rw [if_neg hk] at h
    by_cases hn:nameErr L c d s = 0
    ·rw [if_pos hn] at h
     by_cases hl:(findI L a b).links = 64
     ·rw [if_pos hl] at h;exact absurd h (by decide)
     ·exact ⟨stErr_zero hs,hf,hk,hl,(nameErr_zero hn).1⟩
    ·rw [if_neg hn] at h;exact absurd h hn
  ·rw [if_neg hf] at h;exact absurd h hf
 ·rw [if_neg hs] at h;exact absurd h hs
noncomputable def linkE (C:List Ino->Int) (L:List Ino) (a b c d:Int) (s:ByteArray) (st:Int):Int :=
 if linkErr C L a b c d s st = 0 then Fo.addErr (dirEnts L c d) (dirNext L c d) s a b else linkErr C L a b c d s st
noncomputable def linkT (C:List Ino->Int) (L:List Ino) (a b c d:Int) (s:ByteArray) (st:Int):List Ino :=
 if linkE C L a b c d s st = 0 then
  (L.set c.toNat (filled (findI L c d) ((findI L c d).ents ++ [(s,(findI L c d).next + 1,a,b)]) ((findI L c d).next + 1) st)).set a.toNat (linked (findI L a b) 1 st)
 else []
end Sp
theorem slink_any {C:List Ino->Int} (hC:ChkSaid C) (hM:Sp.ChkMeans C) {S:Nat->Prop} (v:Value) (L:List Rw) (a b c d:Int) (s:ByteArray) (st:Int) (w:World) (hv:TabAt S w v L) (hok:Sp.okN L) (hs:s.size<=maxLen) :
  Calls Tryz.prog 104 #[v,.agg #[.int .i64 a,.int .i64 b],.agg #[.int .i64 c,.int .i64 d],.string s,.int .i64 st] w fun e w' =>
   ∃ u L',e = .returned (.tuple #[u,.int .i64 (Sp.linkE C (pl L) a b c d s st)])/\TabAt (fun b=>w.heap.size<=b) w' u L'/\pl L' = Sp.linkT C (pl L) a b c d s st/\Bw w w':=by
 obtain ⟨W,hW⟩:=qF ((w.alloc (BH a b)).alloc (BH c d));have HB0:Hid (Bw w W):=by show Bw w W;rw [hW];exact (qG _ _).alloc (by simp) _
 have HA0:Hid (W.heap[w.heap.size]? = some (BH a b)/\W.heap[w.heap.size + 1]? = some (BH c d)):=by
  rw [hW];refine ⟨(Below.heap_alloc _ _ _ (by simp)).trans (heap_alloc_new _ _),?_⟩;have:=heap_alloc_new (w.alloc (BH a b)) (BH c d)
  rwa [show (w.alloc (BH a b)).heap.size = w.heap.size + 1 by simp] at this
 have hws:w.heap.size + 1 < W.heap.size:=by rw [hW];simp
 have HV:Hid (TabAt S W v L):=hv.up HB0.out;obtain ⟨ao,cap,rfl,_,_⟩:=hv.open;have HOK:Hid (Sp.okN L):=hok;have HSM:Hid (s.size<=maxLen):=hs;have HCC:Hid (ChkSaid C):=hC;have HMM:Hid (Sp.ChkMeans C):=hM;clear hv hok hs hC hM;obtain ⟨le,hle⟩:=qE (Sp.linkErr C (pl L) a b c d s st);have HLE:Hid (Sp.linkErr C (pl L) a b c d s st = le):=hle
 by_cases hz:le = 0
 ·subst hz;obtain ⟨⟨hc0,hs1,hs2⟩,hf,hk2,hl64,hd⟩:=Sp.linkErr_zero hle;obtain ⟨hr,hfo,hlen,-⟩:=HMM.out _ hc0;obtain ⟨ka,xa,rfl,hxa,hga,hka,hia,-⟩:=Sp.find_get hf;obtain ⟨kc,xc,rfl,hxc,hgc,hkc,hde,hdn,hfc,-⟩:=Sp.dir_get hd;rw [hia] at hk2 hl64;obtain ⟨ya,hya,rfl⟩:=Sp.pl_some hxa;obtain ⟨yc,hyc,rfl⟩:=Sp.pl_some hxc;obtain ⟨ae,hae⟩:=qE (Fo.addErr yc.i.ents yc.i.next s ka b);have hE:Sp.linkE C (pl L) ka b kc d s st = ae:=by unfold Sp.linkE;rw [if_pos hle,hde,hdn,hae]
  have HAE:Hid (Fo.addErr yc.i.ents yc.i.next s ka b = ae):=hae;have hicd:findI (pl L) kc d = yc.i:=by
   obtain ⟨k',x',h1,h2,-,-,h3,-⟩:=Sp.find_get hfc;obtain rfl:kc = k':=by omega
   rw [hxc] at h2;rw [h3];exact (Option.some.inj h2).symm
  have hT:Sp.linkT C (pl L) ka b kc d s st = if ae = 0 then ((pl L).set kc (Sp.filled yc.i (yc.i.ents ++ [(s,yc.i.next + 1,(ka:Int),b)]) (yc.i.next + 1) st)).set ka (Sp.linked ya.i 1 st) else []:=by
   unfold Sp.linkT;rw [hE,hicd,hia];rfl
  have hlenc:=hlen yc.i (List.mem_of_getElem? hxc);have HADD:Hid (Fo.addErr yc.i.ents yc.i.next s ka b = 0->yc.i.ents.length + 1<=3518437208883/\At.growErr yc.i.kind yc.i.links yc.i.size yc.i.stamp (yc.i.ents.length + 1) st = 0):=fun _=>⟨by omega,Sp.grow_ok hr hxc (by omega) ⟨hs1,hs2⟩ ⟨by omega,by omega⟩⟩
  have HYC:Hid (L[kc]? = some yc/\∀ e∈yc.i.ents,e.1.size<=maxLen):=⟨hyc,HOK.out yc (List.mem_of_getElem? hyc)⟩;have hap:=At.right_iff.1 (Sp.attr_of hr (List.mem_of_getElem? hxa));unfold At.rightP at hap;have hka1:ya.i.kind = 1:=by omega
  have hlink:At.linkErr ya.i.kind ya.i.links ya.i.size ya.i.stamp 1 st = 0:=Sp.link_ok hr hxa hka1 ⟨hs1,hs2⟩ (.inl ⟨rfl,by omega⟩);have hst0:0<=st:=Int.le_trans (Sp.top_nonneg _) hs1;have hne:kc≠ka:=by
   intro h;subst h;rw [hxa] at hxc;have:=Option.some.inj hxc;rw [this] at hka1;omega
  have hone:∀ x∈pl L,one x = true:=(It.right_iff.1 hr).2.2;have hp1:=Sp.putTab_set (y:=Sp.filled yc.i (yc.i.ents ++ [(s,yc.i.next + 1,(ka:Int),b)]) (yc.i.next + 1) st) hfc hxc hgc (by show yc.i.kind≠0;omega) (Sp.one_filled (hone _ (List.mem_of_getElem? hxc)) hkc ⟨hst0,hs2⟩ (by simp;omega)) rfl;have hr1:It.right ((pl L).set kc (Sp.filled yc.i (yc.i.ents ++ [(s,yc.i.next + 1,(ka:Int),b)]) (yc.i.next + 1) st)) = true:=Sp.right_set hr hxc (Sp.one_filled (hone _ (List.mem_of_getElem? hxc)) hkc ⟨hst0,hs2⟩ (by simp;omega)) rfl;have hx1:((pl L).set kc (Sp.filled yc.i (yc.i.ents ++ [(s,yc.i.next + 1,(ka:Int),b)]) (yc.i.next + 1) st))[ka]? = some ya.i:=by rw [List.getElem?_set_ne hne];exact hxa
  have hf1:findErr ((pl L).set kc (Sp.filled yc.i (yc.i.ents ++ [(s,yc.i.next + 1,(ka:Int),b)]) (yc.i.next + 1) st)) ka b = 0:=by
   unfold findErr;rw [if_pos hr1,if_pos ?_];unfold names;rw [show ((ka:Int)).toNat = ka by omega,hx1];simp [hga,hka]
  have hp2:=Sp.putTab_set (y:=Sp.linked ya.i 1 st) hf1 hx1 hga hka (Sp.one_linked (hone _ (List.mem_of_getElem? hxa)) hka1 ⟨hst0,hs2⟩ (by omega)) rfl;have HP:Hid (putTab (pl L) kc d (Sp.filled yc.i (yc.i.ents ++ [(s,yc.i.next + 1,(ka:Int),b)]) (yc.i.next + 1) st) = (pl L).set kc (Sp.filled yc.i (yc.i.ents ++ [(s,yc.i.next + 1,(ka:Int),b)]) (yc.i.next + 1) st)):=hp1.2;have HQ:Hid (putTab ((pl L).set kc (Sp.filled yc.i (yc.i.ents ++ [(s,yc.i.next + 1,(ka:Int),b)]) (yc.i.next + 1) st)) ka b (Sp.linked ya.i 1 st) = ((pl L).set kc (Sp.filled yc.i (yc.i.ents ++ [(s,yc.i.next + 1,(ka:Int),b)]) (yc.i.next + 1) st)).set ka (Sp.linked ya.i 1 st)):=hp2.2;have HX1:Hid (((pl L).set kc (Sp.filled yc.i (yc.i.ents ++ [(s,yc.i.next + 1,(ka:Int),b)]) (yc.i.next + 1) st))[ka]? = some ya.i):=hx1;have HLK:Hid (At.linkErr ya.i.kind ya.i.links ya.i.size ya.i.stamp 1 st = 0):=hlink;rw [hE,hT];obtain ⟨T1,hT1⟩:=qE ((pl L).set kc (Sp.filled yc.i (yc.i.ents ++ [(s,yc.i.next + 1,(ka:Int),b)]) (yc.i.next + 1) st));rw [hT1] at HP HQ HX1 ⊢;clear hle hc0 hs1 hs2 hf hk2 hl64 hd hr hfo hlen hxa hga hka hia hxc hgc hkc hde hdn hfc hya hyc hae hE hicd hT hlenc hap hka1 hlink hst0 hne hone hp1 hr1 hx1 hf1 hp2 hT1
  by_cases hz:ae = 0
  ·subst hz;rw [if_pos rfl];go_enter Tryz.func104,Tryz.ntmps104;obtain ⟨⟨a0,a1⟩,_⟩:=two_of HA0.out.1;obtain ⟨⟨g0,g1⟩,_⟩:=two_of HA0.out.2;go_wp2_with fail;rw [← hW];refine (refuseLink_any HCC.out _ L ka b kc d s st _ HV.out HOK.out HSM.out).mono ?_;rintro e w1 ⟨rfl,hb1⟩;rw [HLE.out];have HB1:=qJ HB0 hb1;have HA1:Hid (w1.heap[w.heap.size]? = some (BH ka b)/\w1.heap[w.heap.size + 1]? = some (BH kc d)):=⟨(hb1.block _ (by omega)).trans HA0.out.1,(hb1.block _ (by omega)).trans HA0.out.2⟩;have hws1:w.heap.size + 1 < w1.heap.size:=by have:=hb1.size;omega
   have HV1:Hid (TabAt S w1 (.slice ao L.length cap) L):=HV.out.up hb1;clear hb1 hW HV HA0 a0 a1 g0 g1;obtain ⟨⟨a0,a1⟩,_⟩:=two_of HA1.out.1;obtain ⟨⟨g0,g1⟩,_⟩:=two_of HA1.out.2;go_wp2_with fail;refine (sadd_any _ L kc d ka b st s yc _ HV1.out HYC.out.1 HYC.out.2 HSM.out HADD.out).mono ?_;rintro e w2 ⟨u,L1,rfl,ht,hp,hb2⟩;rw [HAE.out] at hp ⊢;have HB2:=qJ HB1 hb2;rw [if_pos rfl,HP.out] at hp;have HPL:Hid _:=hp;have HT1:Hid _:=ht;have HA2:Hid _:=(hb2.block _ (by omega)).trans HA1.out.1;obtain ⟨y1,hy1,hyi⟩:=Sp.pl_some (L:=L1) (k:=ka) (x:=ya.i) (by rw [HPL.out];exact HX1.out);have HY1:Hid (L1[ka]? = some y1/\y1.i = ya.i):=⟨hy1,hyi⟩;clear hb2 ht hp a0 a1 g0 g1 hy1 hyi;obtain ⟨⟨a0,a1⟩,_⟩:=two_of HA2.out;go_wp2_with fail;refine (count_any u L1 ka b 1 st y1 _ HT1.out HY1.out.1 (by rw [HY1.out.2];exact HLK.out)).mono ?_;rintro e w3 ⟨u3,L3,rfl,ht3,hp3,hb3⟩;rw [HPL.out,HY1.out.2,HQ.out] at hp3;have HB3:=qJ HB2 hb3;have HT3:Hid (TabAt (fun b=>w.heap.size<=b) w3 u3 L3):=⟨ht3.1.imp fun _ h _=>Nat.le_trans HB2.out.size h,fun y hy=>(ht3.2 y hy).imp fun _ h _=>Nat.le_trans HB2.out.size h⟩;have HP3:Hid _:=hp3;clear hb3 ht3 hp3 a0 a1;go_wp2
   (try simp only [Exit.inBlock,Exit.then])
   refine bodyPost_ret (v:=.tuple #[u3,.int .i64 0]) (by simp [results,Tryz.results104,go_sem]) rfl ?_
   first
    | exact ⟨u3,rfl,L3,HT3.out,HP3.out,HB3.out⟩
    | exact ⟨u3,L3,rfl,HT3.out,HP3.out,HB3.out⟩
  ·rw [if_neg hz];have hz':(ae != 0) = true:=by simpa using hz
   clear hz;go_enter Tryz.func104,Tryz.ntmps104;obtain ⟨⟨a0,a1⟩,_⟩:=two_of HA0.out.1;obtain ⟨⟨g0,g1⟩,_⟩:=two_of HA0.out.2;go_wp2_with fail;rw [← hW];refine (refuseLink_any HCC.out _ L ka b kc d s st _ HV.out HOK.out HSM.out).mono ?_;rintro e w1 ⟨rfl,hb1⟩;rw [HLE.out];have HB1:=qJ HB0 hb1;have HA1:Hid (w1.heap[w.heap.size]? = some (BH ka b)/\w1.heap[w.heap.size + 1]? = some (BH kc d)):=⟨(hb1.block _ (by omega)).trans HA0.out.1,(hb1.block _ (by omega)).trans HA0.out.2⟩;have hws1:w.heap.size + 1 < w1.heap.size:=by have:=hb1.size;omega
   have HV1:Hid (TabAt S w1 (.slice ao L.length cap) L):=HV.out.up hb1;clear hb1 hW HV HA0 a0 a1 g0 g1;obtain ⟨⟨a0,a1⟩,_⟩:=two_of HA1.out.1;obtain ⟨⟨g0,g1⟩,_⟩:=two_of HA1.out.2;go_wp2_with fail;refine (sadd_any _ L kc d ka b st s yc _ HV1.out HYC.out.1 HYC.out.2 HSM.out HADD.out).mono ?_;rintro e w2 ⟨u,L1,rfl,ht,hp,hb2⟩;rw [HAE.out] at hp ⊢;have HB2:=qJ HB1 hb2;clear hb2 ht hp a0 a1 g0 g1;go_wp2
   (try simp only [Exit.inBlock,Exit.then])
   refine bodyPost_ret (v:=.tuple #[.slice none 0 0,.int .i64 ae]) (by simp [results,Tryz.results104,go_sem]) rfl ?_
   first
    | exact ⟨_,rfl,[],tab_nil _ _,rfl,HB2.out⟩
    | exact ⟨_,[],rfl,tab_nil _ _,rfl,HB2.out⟩
 ·have hE:Sp.linkE C (pl L) a b c d s st = le:=by unfold Sp.linkE;rw [if_neg (by rw [hle];exact hz),hle]
  have hT:Sp.linkT C (pl L) a b c d s st = []:=by unfold Sp.linkT;rw [if_neg (by rw [hE];exact hz)]
  rw [hE,hT];have hz':(le != 0) = true:=by simpa using hz
  clear hz hE hT hle;go_enter Tryz.func104,Tryz.ntmps104;obtain ⟨⟨a0,a1⟩,_⟩:=two_of HA0.out.1;obtain ⟨⟨g0,g1⟩,_⟩:=two_of HA0.out.2;go_wp2_with fail;rw [← hW];refine (refuseLink_any HCC.out _ L a b c d s st _ HV.out HOK.out HSM.out).mono ?_;rintro e w1 ⟨rfl,hb1⟩;rw [HLE.out];have HB1:=qJ HB0 hb1;clear hb1 hW HV HA0 a0 a1 g0 g1;go_wp2
  (try simp only [Exit.inBlock,Exit.then])
  refine bodyPost_ret (v:=.tuple #[.slice none 0 0,.int .i64 le]) (by simp [results,Tryz.results104,go_sem]) rfl ?_
  first
   | exact ⟨_,rfl,[],tab_nil _ _,rfl,HB1.out⟩
   | exact ⟨_,[],rfl,tab_nil _ _,rfl,HB1.out⟩
namespace Sp
theorem lookErr_zero {L:List Ino} {a b:Int} {s:ByteArray} (h:lookErr L a b s = 0):dirErr L a b = 0/\Fo.findErr (dirEnts L a b) (dirNext L a b) s = 0/\lookH L a b s = (Fo.found (dirEnts L a b) (dirNext L a b) s).2.2:=by
  unfold lookErr at h
  by_cases hd:dirErr L a b = 0
  · rw [if_pos hd] at h
    exact ⟨hd,h,by unfold lookH;rw [if_pos hd]⟩
  · rw [if_neg hd] at h
    exact absurd h hd
/-- A name to go that was found: the folder, the place, the inode. -/
theorem to_zero {C:List Ino->Int} (hM:ChkMeans C) {L:List Ino} {st a b:Int} {s:ByteArray} (h:toErr C L st a b s = 0) :
    ∃ (kc : Nat) (xc : Ino) (j : Nat) (e : Ent) (kt : Nat) (xt : Ino), a = kc ∧ L[kc]? = some xc ∧ xc.gen = b ∧ xc.kind = 2 ∧ findErr L a b = 0 ∧ Fo.findErr xc.ents xc.next s = 0 ∧ Fo.plc xc.ents xc.next s = j ∧ xc.ents[j]? = some e ∧
      toH C L st a b s = e.2.2/\e.2.2.1 = kt/\kt≠0/\L[kt]? = some xt/\xt.gen = e.2.2.2/\xt.kind≠0/\1<=xt.links/\findErr L e.2.2.1 e.2.2.2 = 0/\findI L e.2.2.1 e.2.2.2 = xt/\findI L a b = xc /\
      It.right L = true/\(top L<=st/\st<=1099511627776)/\xc.ents.length<=1536:=by
  unfold toErr at h
  by_cases hs:stErr C L st = 0
  · rw [if_pos hs] at h
    obtain ⟨hc0,hs1,hs2⟩:=stErr_zero hs;obtain ⟨hr,-,hlen,hnm⟩:=hM _ hc0;obtain ⟨hd,hf,hh⟩:=lookErr_zero h;obtain ⟨kc,xc,hk,hx,hg,hk2,hde,hdn,hfe,-⟩:=dir_get hd;obtain ⟨kc',xc',hk',hx',-,-,hi',-⟩:=find_get hfe;obtain rfl:kc = kc':=by omega
    rw [hx] at hx';obtain rfl:xc = xc':=Option.some.inj hx';rw [hde,hdn] at hf hh;rcases Fo.findErr_or xc.ents xc.next s with ⟨j,e,-,hp,hj,-,-,-,-⟩ | ⟨-,h4⟩
    · rw [Fo.found_hit hf hp hj] at hh
      obtain ⟨n1,n2,n3⟩:=hnm xc (List.mem_of_getElem? hx) e (List.mem_of_getElem? hj);obtain ⟨kt,xt,ht,hxt,hgt,hkt,hit,-⟩:=find_get n1;rw [hit] at n2;exact ⟨kc,xc,j,e,kt,xt,hk,hx,hg,hk2,hfe,hf,hp,hj,by unfold toH;rw [if_pos hs,hh],ht,by omega,hxt,hgt,hkt,n2,n1,hit,hi',hr,⟨hs1,hs2⟩,hlen xc (List.mem_of_getElem? hx)⟩
    · omega
  · rw [if_neg hs] at h
    exact absurd h hs
/-- What Rmdir tells. -/
noncomputable def rmE (C:List Ino->Int) (L:List Ino) (a b:Int) (s:ByteArray) (st:Int):Int :=
  if toErr C L st a b s = 0 then (if (findI L (toH C L st a b s).1 (toH C L st a b s).2).kind = 2 then (if (findI L (toH C L st a b s).1 (toH C L st a b s).2).ents = [] then 0 else 406) else 404) else toErr C L st a b s
noncomputable def lessDir (L:List Ino) (a b:Int) (s:ByteArray) (st:Int):List Ino :=
  L.set a.toNat (filled (findI L a b) ((findI L a b).ents.eraseIdx (Fo.plc (findI L a b).ents (findI L a b).next s).toNat) (findI L a b).next st)
noncomputable def rmT (C:List Ino->Int) (L:List Ino) (a b:Int) (s:ByteArray) (st:Int):List Ino :=
  if rmE C L a b s st = 0 then (lessDir L a b s st).set (toH C L st a b s).1.toNat (gone (toH C L st a b s).2) else []
/-- The table with a name less: right; the inode of another number is the same. -/
theorem less_right {L:List Ino} {kc:Nat} {xc:Ino} {s:ByteArray} {b st:Int} (hr:It.right L = true) (hx:L[kc]? = some xc) (hg:xc.gen = b) (hk:xc.kind = 2) (hf:findErr L kc b = 0) (hs:0<=st/\st<=1099511627776) (hl:xc.ents.length<=1536) :
    putTab L kc b (filled xc (xc.ents.eraseIdx (Fo.plc xc.ents xc.next s).toNat) xc.next st) = L.set kc (filled xc (xc.ents.eraseIdx (Fo.plc xc.ents xc.next s).toNat) xc.next st) /\
      It.right (L.set kc (filled xc (xc.ents.eraseIdx (Fo.plc xc.ents xc.next s).toNat) xc.next st)) = true:=by
  have ho:=(It.right_iff.1 hr).2.2 xc (List.mem_of_getElem? hx);have h1:one (filled xc (xc.ents.eraseIdx (Fo.plc xc.ents xc.next s).toNat) xc.next st) = true:=one_filled ho hk hs (Nat.le_trans (List.length_eraseIdx_le ..) (by omega));exact ⟨(putTab_set (y:=filled xc (xc.ents.eraseIdx (Fo.plc xc.ents xc.next s).toNat) xc.next st) hf hx hg (by show xc.kind≠0;omega) h1 rfl).2,right_set hr hx h1 rfl⟩
theorem find_set {L:List Ino} {k j:Nat} {x y:Ino} {g:Int} (hr:It.right (L.set k y) = true) (hx:L[j]? = some x) (hne:k≠j) (hg:x.gen = g) (hk:x.kind≠0):findErr (L.set k y) j g = 0:=by
  unfold findErr;rw [if_pos hr,if_pos ?_];unfold names;rw [show ((j:Int)).toNat = j by omega,List.getElem?_set_ne hne,hx];simp [hg,hk]
end Sp
end Go.Proofs.YtneojimodomohaaGreat
