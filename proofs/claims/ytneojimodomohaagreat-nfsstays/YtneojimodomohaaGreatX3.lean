/- RRt, SIns, FPlainH, Sta, as one. -/
import Derived.Test.YtneojimodomohaaGreatX2
set_option maxHeartbeats 8000000
set_option maxRecDepth 100000
namespace Go.Proofs.YtneojimodomohaaGreat
open Go.ChangeShapes Go.WideShapes Go.ChangeAt Go.RowKit Go.Deep It
theorem rspace_any : RtSaid Sp.isSp := by
 intro S v L w hv hok;obtain ⟨ao,cap,rfl,-,-⟩:=hv.open;obtain ⟨n,hn⟩:=qE L.length;rw [hn] at hv ⊢;have HN:Hid (L.length = n):=hn;have HPL:Hid ((pl L).length = n):=by show _ = _;rw [List.length_map];exact hn
 have HV:Hid (TabAt S w (.slice ao n cap) L):=hv;have HOK:Hid (Sp.okN L):=hok;obtain ⟨r,hr⟩:=qE (Sp.isSp (pl L));have HR:Hid (Sp.isSp (pl L) = r):=hr;rw [hr];obtain ⟨i0,hi0⟩:=qE (It.right (pl L));have HI:Hid (It.right (pl L) = i0):=hi0;clear hr hn hv hok hi0
 cases i0
 ·have HH:Hid (r = false):=by
   show r = false;rw [← HR.out]
   cases hs:Sp.isSp (pl L) with
   | false=>rfl
   | true=>have:=(Sp.isSp_iff.1 hs).1;rw [HI.out] at this;cases this
  go_enter Tryz.func32,Tryz.ntmps32;go_wp2_with fail;refine (rright_any _ L _ HV.out).mono ?_;rintro e w1 ⟨rfl,hb1⟩;rw [HI.out];have HB8:Hid (Bw w w1):=hb1;clear hb1;go_wp2;go_ret;rw [HH.out];exact ⟨rfl,HB8.out⟩
 ·have hL : L.length ≤ 24 := by have := (Sp.right_len HI.out).2; rw [List.length_map] at this; exact this
  have hL2:n<=24:=by rw [← HN.out];exact hL
  have hn1:0 < n:=by have:=(Sp.right_len HI.out).1;rw [HPL.out] at this;exact this
  go_enter Tryz.func32,Tryz.ntmps32;go_wp2_with fail;refine (rright_any _ L _ HV.out).mono ?_;rintro e w1 ⟨rfl,hb1⟩;rw [HI.out];have HB1':Hid (Bw w w1):=hb1;clear hb1;go_wp2;go_loopw [16] (fun i wr=>∃ k:Nat,k<=n/\i = .int .i64 k/\Hid (∀ j y,j < k->(pl L)[j]? = some y->Sp.okAt (pl L) j y)/\Hid (Bw w wr)) (fun i _=>n - (intOf i).toNat)
  case atStart=>exact ⟨0,Nat.zero_le _,rfl,fun j y hj=>by omega,HB1'.out⟩
  case round =>
   obtain ⟨k,hk,rfl,HP,HB⟩:=hrel;have hsz:=HB.out.size
   by_cases hlt:k < n
   ·obtain ⟨x, hxk⟩ : ∃ x, L[k]? = some x := ⟨_, List.getElem?_eq_getElem (by rw [HN.out]; exact hlt)⟩;have HPK:Hid ((pl L)[k]? = some x.i):=by show _ = _;simp [hxk]
    obtain ⟨⟨b,off,rfl,hB,hc⟩,hen,hel,hes⟩:=tab_eight HV.out hxk;have HES:Hid (∀ j e,x.i.ents[j]? = some e->∃ b off,x.ep = some ⟨b,off,none⟩/\b < w.heap.size/\ent4 w b (off + j * 4) e):=hes;have hgood:=HV.out.2 x (List.mem_of_getElem? hxk);obtain ⟨c0,c1,c2,c3,c4,c5,c6,c7⟩:=hc.below HB.out hB;have hlt':(k:Int) < (n:Int):=by omega
    obtain ⟨m,hm⟩:=qE x.en;obtain ⟨ep,hep⟩:=qE x.ep;have HM:Hid _:=hen.symm.trans hm;have hmb:m<=3518437208883:=by rw [← HM.out];exact hel
    have HEP:Hid (x.ep = ep):=hep;rw [hm,hep] at c6;have HGD:Hid (∀ {V:World},Bw w V->AtW EE V (.slice ep m x.ec) x.i.ents):=fun {V} h=>by rw [← hm,← hep];exact (hgood.2.1.up h).wide
    have HSM:Hid (∀ e∈x.i.ents,e.1.size<=maxLen):=HOK.out x (List.mem_of_getElem? hxk);have HSUC:Hid (Sp.okAt (pl L) k x.i->∀ j y,j < k + 1->(pl L)[j]? = some y->Sp.okAt (pl L) j y):=fun h j y hj hy=>by
     by_cases hjk:j = k
     ·subst hjk;rw [HPK.out] at hy
      cases hy
      exact h
     ·exact HP.out j y (by omega) hy
    have HBAD:Hid (¬ Sp.okAt (pl L) k x.i->r = false):=fun h=>by
     rw [← HR.out];exact Sp.isSp_not fun ho=>h (ho k x.i HPK.out)
    have hk012:x.i.kind = 0∨x.i.kind = 1∨x.i.kind = 2:=by
     have hone:=(It.right_iff.1 HI.out).2.2 x.i (List.mem_of_getElem? HPK.out);unfold one at hone;simp only [Bool.and_eq_true] at hone;rcases At.right_iff.1 hone.2.1 with ⟨h3,_⟩ | ⟨_,_,⟨h3,_⟩ | ⟨h3,_⟩⟩
     ·exact .inl h3
     ·exact .inr (.inl h3)
     ·exact .inr (.inr h3)
    have HROOT:Hid (k = 0->x.i.kind = 2):=fun h0=>by subst h0;exact Sp.root_kind HI.out HPK.out
    clear hc hxk hes hen hel hm hep hgood;rcases hk012 with hkd | hkd | hkd
    ·rw [hkd] at c1;have hkn:¬ k = 0:=fun h=>by have:=HROOT.out h;omega
     have hkz:¬ (k:Int) = 0:=by omega
     have HB1:Hid (Bw w (wr.alloc (B8 x.i.gen 0 x.i.links x.i.size x.i.stamp (.slice x.rp x.rn x.rc) (.slice ep m x.ec) x.i.next))):=HB.out.alloc hsz _;have HX1:Hid ((wr.alloc (B8 x.i.gen 0 x.i.links x.i.size x.i.stamp (.slice x.rp x.rn x.rc) (.slice ep m x.ec) x.i.next)).heap[wr.heap.size]? = some (B8 x.i.gen 0 x.i.links x.i.size x.i.stamp (.slice x.rp x.rn x.rc) (.slice ep m x.ec) x.i.next)):=heap_alloc_new wr _;go_wp2_with fail;refine (rnum_any _ L (k:Int) _ (HV.out.up HB1.out) hL).mono ?_;rintro e w8 ⟨rfl,hb8⟩;obtain ⟨g,hg⟩:=qE (Sp.nmv (pl L) (k:Int));have HG:Hid (Sp.nmv (pl L) (k:Int) = g):=hg;rw [hg];have HB8:=qJ HB1 hb8;obtain ⟨⟨q0,q1,q2,q3,q4,q5,q6,q7⟩,-⟩:=eight_of ((hb8.block _ (qL HX1.out)).trans HX1.out);clear hb8 hg;have HY:Hid (∀ j y,j < k + 1->(pl L)[j]? = some y->Sp.okAt (pl L) j y):=HSUC.out ⟨fun h=>by omega,fun h=>by omega,fun h=>by omega,fun h=>by omega,fun h=>by omega⟩;clear hkd;go_wp2
     go_roundw
     case rel=>exact ⟨k + 1,by omega,by go_num,HY.out,HB8.out⟩
     case measure=>simp [intOf];omega
    ·rw [hkd] at c1;have hkn:¬ k = 0:=fun h=>by have:=HROOT.out h;omega
     have hkz:¬ (k:Int) = 0:=by omega
     have HB1:Hid (Bw w (wr.alloc (B8 x.i.gen 1 x.i.links x.i.size x.i.stamp (.slice x.rp x.rn x.rc) (.slice ep m x.ec) x.i.next))):=HB.out.alloc hsz _;have HX1:Hid ((wr.alloc (B8 x.i.gen 1 x.i.links x.i.size x.i.stamp (.slice x.rp x.rn x.rc) (.slice ep m x.ec) x.i.next)).heap[wr.heap.size]? = some (B8 x.i.gen 1 x.i.links x.i.size x.i.stamp (.slice x.rp x.rn x.rc) (.slice ep m x.ec) x.i.next)):=heap_alloc_new wr _;go_wp2_with fail;refine (rnum_any _ L (k:Int) _ (HV.out.up HB1.out) hL).mono ?_;rintro e w8 ⟨rfl,hb8⟩;obtain ⟨g,hg⟩:=qE (Sp.nmv (pl L) (k:Int));have HG:Hid (Sp.nmv (pl L) (k:Int) = g):=hg;rw [hg];have HB8:=qJ HB1 hb8;obtain ⟨⟨q0,q1,q2,q3,q4,q5,q6,q7⟩,-⟩:=eight_of ((hb8.block _ (qL HX1.out)).trans HX1.out);clear hb8 hg
     by_cases hn:(g:Int) = x.i.links
     ·have HY:Hid (∀ j y,j < k + 1->(pl L)[j]? = some y->Sp.okAt (pl L) j y):=HSUC.out ⟨fun h=>by omega,fun h=>by omega,fun h=>by rw [HG.out];exact hn,fun h=>by omega,fun h=>by omega⟩;have h1:((g:Int) != x.i.links) = false:=by simp [hn]
      clear hkd hn;go_wp2
      go_roundw
      case rel=>exact ⟨k + 1,by omega,by go_num,HY.out,HB8.out⟩
      case measure=>simp [intOf];omega
     ·have HH:Hid (r = false):=HBAD.out fun h=>hn (by rw [← HG.out];exact h.2.2.1 hkd)
      have h1:((g:Int) != x.i.links) = true:=by simp [hn]
      clear hkd hn;go_wp2;go_ret;rw [HH.out];exact ⟨rfl,HB8.out⟩
    ·rw [hkd] at c1;have HB1:Hid (Bw w (wr.alloc (B8 x.i.gen 2 x.i.links x.i.size x.i.stamp (.slice x.rp x.rn x.rc) (.slice ep m x.ec) x.i.next))):=HB.out.alloc hsz _;have HX1:Hid ((wr.alloc (B8 x.i.gen 2 x.i.links x.i.size x.i.stamp (.slice x.rp x.rn x.rc) (.slice ep m x.ec) x.i.next)).heap[wr.heap.size]? = some (B8 x.i.gen 2 x.i.links x.i.size x.i.stamp (.slice x.rp x.rn x.rc) (.slice ep m x.ec) x.i.next)):=heap_alloc_new wr _;have HBX:Hid (∀ V,Bw w V->Bw w V):=fun _ h=>h
     rcases Fo.err_or x.i.ents x.i.next with ⟨he,hrt⟩ | ⟨he,hrt⟩
     ·have HE : Hid (decide (Fo.err x.i.ents x.i.next = 0) = true) := decide_eq_true he;clear he;go_wp2_with fail;refine (frright_any _ x.i.ents x.i.next _ (HGD.out HB1.out) HSM.out).mono ?_;rintro e w4 ⟨rfl,hb4⟩;rw [HE.out];have HB4:=qJ HB1 hb4;have HX4:=qK hb4 HX1;obtain ⟨⟨q0,q1,q2,q3,q4,q5,q6,q7⟩,-⟩:=eight_of HX4.out;clear hb4
      by_cases hs:x.i.size = (m:Int)
      ·have HFO : Hid (Sp.fold x.i) := fun _ => ⟨hrt, by rw [hs, HM.out]⟩
       have hs1:(x.i.size != (m:Int)) = false:=by simp [hs]
       have HKD:Hid (x.i.kind = 2):=hkd;clear hrt hs hkd;go_wp2;clear q0 q1 q2 q3 q4 q5 q6 q7 c0 c1 c2 c3 c4 c5 c6 c7 hs1;obtain ⟨wo,rfl⟩:∃ wo:World,wo = wr:=⟨_,rfl⟩;go_loopw [43] (fun i V=>∃ j:Nat,j<=m/\i = .int .i64 j/\Hid (∀ e∈x.i.ents.take j,names (pl L) e.2.2.1 e.2.2.2 = true)/\Hid (V.heap[wo.heap.size]? = some (B8 x.i.gen 2 x.i.links x.i.size x.i.stamp (.slice x.rp x.rn x.rc) (.slice ep m x.ec) x.i.next))/\Hid (Bw w V)) (fun i _=>m - (intOf i).toNat)
       case atStart=>exact ⟨0,Nat.zero_le _,rfl,fun e he=>(by simp at he),HX4.out,HB4.out⟩
       case round =>
        obtain ⟨j,hj,rfl,HE5,HX5,HB5⟩:=hrel
        by_cases hjm:j < m
        ·obtain ⟨⟨s,ck,no2,gn⟩,hej⟩:∃ e,x.i.ents[j]? = some e:=⟨_,List.getElem?_eq_getElem (by rw [HM.out];exact hjm)⟩;obtain ⟨b2,off2,hep,hb2,h4⟩:=HES.out j _ hej;obtain rfl:ep = some ⟨b2,off2,none⟩:=HEP.out.symm.trans hep;obtain ⟨d0,d1,d2,d3⟩:=h4.below HB5.out hb2;simp only at d0 d1 d2 d3;have hjm':(j:Int) < (m:Int):=by omega
         have HEJ:Hid (x.i.ents[j]? = some (s,ck,no2,gn)):=hej;obtain ⟨hx5,-⟩:=Array.getElem?_eq_some_iff.1 HX5.out;have HB6:Hid (Bw w (wr.alloc (BEn (s,ck,no2,gn)))):=HB5.out.alloc HB5.out.size _;have HX6:Hid ((wr.alloc (BEn (s,ck,no2,gn))).heap[wo.heap.size]? = some (B8 x.i.gen 2 x.i.links x.i.size x.i.stamp (.slice x.rp x.rn x.rc) (.slice (some ⟨b2,off2,none⟩) m x.ec) x.i.next)):=(Below.heap_alloc wr _ _ hx5).trans HX5.out;clear hej hep h4
         cases hnm:names (pl L) no2 gn with
         | true =>
          have HNN:Hid (names (pl L) no2 gn = true):=hnm;have HE6:Hid (∀ e∈x.i.ents.take (j + 1),names (pl L) e.2.2.1 e.2.2.2 = true):=fun e he=>by
           rw [List.take_add_one,HEJ.out] at he;rcases List.mem_append.1 he with he | he
           ·exact HE5.out e he
           ·simp at he;subst he;exact HNN.out
          clear hnm;go_wp2_with fail;refine (rnames_any _ L no2 gn _ (HV.out.up HB6.out)).mono ?_;rintro e w7 ⟨rfl,hb7⟩;rw [HNN.out];have HB7:=qJ HB6 hb7;have HX7:=qK hb7 HX6;clear hb7;go_wp2
          go_roundw
          case rel=>exact ⟨j + 1,by omega,by go_num,HE6.out,HX7.out,HB7.out⟩
          case measure=>simp [intOf];omega
         | false =>
          have HNN:Hid (names (pl L) no2 gn = false):=hnm;have HH:Hid (r = false):=HBAD.out fun h=>by
           have:=h.2.1 HKD.out _ (List.mem_of_getElem? HEJ.out);rw [show names (pl L) no2 gn = false from HNN.out] at this
           cases this
          clear hnm;go_wp2_with fail;refine (rnames_any _ L no2 gn _ (HV.out.up HB6.out)).mono ?_;rintro e w7 ⟨rfl,hb7⟩;rw [HNN.out];have HB8:=qJ HB6 hb7;clear hb7;go_wp2;go_ret;rw [HH.out];exact ⟨rfl,HB8.out⟩
        ·obtain rfl:m = j:=by omega
         have HNM:Hid (x.i.kind = 2->∀ e∈x.i.ents,names (pl L) e.2.2.1 e.2.2.2 = true):=fun _=>by
          have:=HE5.out;rw [List.take_of_length_le (by rw [HM.out];exact Nat.le_refl _)] at this;exact this
         have hkd:x.i.kind = 2:=HKD.out;go_wp2_with fail;refine (rnum_any _ L (k:Int) _ (HV.out.up HB5.out) hL).mono ?_;rintro e w8 ⟨rfl,hb8⟩;obtain ⟨g,hg⟩:=qE (Sp.nmv (pl L) (k:Int));have HG:Hid (Sp.nmv (pl L) (k:Int) = g):=hg;rw [hg];have HB8:=qJ HB5 hb8;obtain ⟨⟨q0,q1,q2,q3,q4,q5,q6,q7⟩,-⟩:=eight_of ((hb8.block _ (qL HX5.out)).trans HX5.out);clear hb8 hg
         by_cases hk0:k = 0
         ·by_cases hn:g = 0
          ·have HY:Hid (∀ j y,j < k + 1->(pl L)[j]? = some y->Sp.okAt (pl L) j y):=HSUC.out ⟨HFO.out,HNM.out,fun h=>by omega,fun h h'=>by omega,fun h=>by rw [HG.out,hn];rfl⟩;subst hk0 hn;clear hkd;go_wp2
           go_roundw
           case rel=>exact ⟨0 + 1,by omega,by go_num,HY.out,HB8.out⟩
           case measure=>simp [intOf];omega
          ·have HH:Hid (r = false):=HBAD.out fun h=>hn (by have:=h.2.2.2.2 hk0;rw [HG.out] at this;omega)
           have h1:((g:Int) != 0) = true:=by simp;omega
           subst hk0;clear hkd hn;go_wp2;go_ret;rw [HH.out];exact ⟨rfl,HB8.out⟩
         ·have hk1:0 < (k:Int):=by omega
          have hk2:¬ (k:Int) = 0:=by omega
          by_cases hn:g = 1
          ·have HY:Hid (∀ j y,j < k + 1->(pl L)[j]? = some y->Sp.okAt (pl L) j y):=HSUC.out ⟨HFO.out,HNM.out,fun h=>by omega,fun h h'=>by rw [HG.out,hn];rfl,fun h=>by omega⟩;subst hn;clear hkd;go_wp2
           go_roundw
           case rel=>exact ⟨k + 1,by omega,by go_num,HY.out,HB8.out⟩
           case measure=>simp [intOf];omega
          ·have HH:Hid (r = false):=HBAD.out fun h=>hn (by have:=h.2.2.2.1 hkd (by omega);rw [HG.out] at this;omega)
           have h1:((g:Int) != 1) = true:=by simp;omega
           clear hkd hn;go_wp2;go_ret;rw [HH.out];exact ⟨rfl,HB8.out⟩
      ·have HH:Hid (r = false):=HBAD.out fun h=>hs (by rw [(h.1 hkd).2,HM.out])
       have hs1:(x.i.size != (m:Int)) = true:=by simp [hs]
       have HB8:=HB4;clear hrt hs hkd;go_wp2;go_ret;rw [HH.out];exact ⟨rfl,HB8.out⟩
     ·have HE:Hid (decide (Fo.err x.i.ents x.i.next = 0) = false):=decide_eq_false (by rw [he];decide);have HH:Hid (r = false):=HBAD.out fun h=>hrt (h.1 hkd).1
      clear he hrt hkd;go_wp2_with fail;refine (frright_any _ x.i.ents x.i.next _ (HGD.out HB1.out) HSM.out).mono ?_;rintro e w4 ⟨rfl,hb4⟩;rw [HE.out];have HB8:=qJ HB1 hb4;clear hb4;go_wp2;go_ret;rw [HH.out];exact ⟨rfl,HB8.out⟩
   ·obtain rfl:n = k:=by omega
    have HALL:Hid (Sp.okAll (pl L)):=fun i x hx=>HP.out i x (by rw [← HPL.out];exact (qM hx)) hx
    go_wp2_with fail;refine (reach_any _ L 0 _ (HV.out.up HB.out) (by omega) (by rw [HN.out];exact hn1)).mono ?_;rintro e w2 ⟨rfl,hb2,f,hrow,hsd,hfl⟩;rw [HN.out] at hrow hfl ⊢;obtain ⟨b9,hb9⟩:=qE wr.heap.size;rw [hb9] at hrow ⊢;have HB2:=qJ HB hb2;have HROW:Hid (w2.rowIs b9 4 n (fun i=>.bool (f i))):=hrow;have HISP:Hid (Sp.isSp (pl L) = true ↔ ∀ c,Sp.dirAt (pl L) c = true->f c = true):=Sp.isSp_of HI.out HALL.out hsd (by rw [HPL.out];exact hfl);clear hb2 hrow hsd hfl hb9;go_wp2;obtain ⟨wo,rfl⟩:∃ wo:World,wo = wr:=⟨_,rfl⟩;go_loopw [94] (fun i V=>∃ k:Nat,k<=n/\i = .int .i64 k/\Hid (∀ c,c < k->Sp.dirAt (pl L) c = true->f c = true)/\Hid (Bw w2 V)) (fun i _=>n - (intOf i).toNat)
    case atStart=>exact ⟨0,Nat.zero_le _,rfl,fun c hc=>by omega,Below.refl _ _⟩
    case round =>
     obtain ⟨k,hk,rfl,HF,HBV⟩:=hrel;have hszv:=HBV.out.size;have HB8:=qJ HB2 HBV.out
     by_cases hlt:k < n
     ·obtain ⟨x,hxk⟩:∃ x,L[k]? = some x:=⟨_,List.getElem?_eq_getElem (by rw [HN.out];exact hlt)⟩;obtain ⟨⟨b,off,rfl,hB,hc⟩,-,-,-⟩:=tab_eight HV.out hxk;obtain ⟨c0,c1,c2,c3,c4,c5,c6,c7⟩:=hc.below HB8.out hB;have hlt':(k:Int) < (n:Int):=by omega
      have HDIR:Hid (Sp.dirAt (pl L) k = (x.i.kind == 2)):=(ents_at hxk).2;have hrv:=HROW.out.of_block (HBV.out.block _ HROW.out.lt);have q1:=hrv.cell hlt;have hlv:=hrv.lt;clear hc hxk hrv
      by_cases hkd:x.i.kind = 2
      ·rw [hkd] at c1
       cases hfk:f k with
       | true =>
        rw [hfk] at q1;have HF2:Hid (∀ c,c < k + 1->Sp.dirAt (pl L) c = true->f c = true):=fun c hc hd=>by
         by_cases hck:c = k
         ·rw [hck];exact hfk
         ·exact HF.out c (by omega) hd
        clear hfk hkd;go_wp2
        go_roundw
        case rel=>exact ⟨k + 1,by omega,by go_num,HF2.out,HBV.out.alloc hszv _⟩
        case measure=>simp [intOf];omega
       | false =>
        rw [hfk] at q1;have HH:Hid (r = false):=by
         show r = false;rw [← HR.out]
         cases hs:Sp.isSp (pl L) with
         | false=>rfl
         | true =>
          have:=HISP.out.1 hs k (by rw [HDIR.out,hkd];rfl);rw [hfk] at this
          cases this
        clear hfk hkd;go_wp2;go_ret;rw [HH.out];exact ⟨rfl,HB8.out.alloc HB8.out.size _⟩
      ·have HF2:Hid (∀ c,c < k + 1->Sp.dirAt (pl L) c = true->f c = true):=fun c hc hd=>by
        by_cases hck:c = k
        ·rw [hck,HDIR.out] at hd;exact (hkd (by simpa using hd)).elim
        ·exact HF.out c (by omega) hd
       go_wp2
       go_roundw
       case rel=>exact ⟨k + 1,by omega,by go_num,HF2.out,HBV.out.alloc hszv _⟩
       case measure=>simp [intOf];omega
     ·obtain rfl:n = k:=by omega
      have HH:Hid (r = true):=by
       show r = true;rw [← HR.out];exact HISP.out.2 fun c hd=>HF.out c (by rw [← HPL.out];exact Sp.dirAt_lt hd) hd
      go_wp2;go_ret;rw [HH.out];exact ⟨rfl,HB8.out⟩
end Go.Proofs.YtneojimodomohaaGreat
namespace Go.Proofs.YtneojimodomohaaGreat
open It
theorem Sp.insB_iff {L:List Ino} (hs:Sp.isSp L = true) {no c:Nat} (hdn:Sp.dirAt L no = true):Sp.insB L no c = true ↔ ∃ d,Sp.Anc L d no c:=by
 obtain ⟨h1,-,-,h4⟩:=Sp.isSp_iff.1 hs;have ht:=Sp.isSp_tree hs;have hl:=(Sp.right_len h1).2;unfold Sp.insB;rw [show ((no:Int)).toNat = no by omega,List.any_eq_true];constructor
 ·rintro ⟨z,hz,he⟩;obtain ⟨d,ha⟩:=Sp.walk_mem ht _ _ _ z hz;refine ⟨d,?_⟩;have:z.1 = c:=by have:=beq_iff_eq.1 he;omega
  rwa [this] at ha
 ·rintro ⟨d,ha⟩;obtain ⟨m,hm⟩:=(Sp.reachB_iff ht hl).1 h4 no hdn;have:=Sp.anc_lt ht (Sp.anc_trans hm d c ha);obtain ⟨z,hz,he⟩:=Sp.walk_has ht 24 no ⟨#[]⟩ d c ha (by omega);exact ⟨z,hz,by rw [he];simp⟩
end Go.Proofs.YtneojimodomohaaGreat
namespace Go.Proofs.YtneojimodomohaaGreat
namespace Fo
theorem called_not {s:ByteArray} {x:Ent}:called s x = false ↔ x.1≠s:=by
  rw [← Bool.not_eq_true,called_iff]
theorem okE_mono {next next':Int} {x:Ent} (h:okE next x) (hn:next<=next'):okE next' x:=⟨h.1,⟨h.2.1.1,by have:=h.2.1.2;omega⟩,h.2.2⟩
theorem right_add {l:List Ent} {next:Int} {s:ByteArray} {no gen:Int} (h:Right l next) (hs:Nm.ok s) (ho:Ho no gen) (ha:at' (called s) l = -1) (hn:next < 1099511627776):Right (l ++ [(s,next + 1,no,gen)]) (next + 1):=by
  obtain ⟨h1,h2,h3,h4⟩:=right_iff.1 h;have hno:∀ x∈l,x.1≠s:=by
    rcases at_or (called s) l with ⟨-,hall⟩ | ⟨k,x,ht,-,-,-⟩
    · exact fun x hx=>called_not.1 (hall x hx)
    · rw [ha] at ht
      omega
  refine right_iff.2 ⟨⟨by omega,by omega⟩,fun x hx=>?_,?_,?_⟩
  · rcases List.mem_append.1 hx with hx | hx
    · exact okE_mono (h2 x hx) (by omega)
    · simp at hx
      subst hx;exact ⟨hs,⟨by simp;omega,by simp⟩,ho⟩
  · rw [List.pairwise_append]
    refine ⟨h3,by simp,fun a ha b hb=>?_⟩;simp at hb;subst hb;have:=(h2 a ha).2.1.2;simp;omega
  · unfold apart at h4 ⊢
    rw [List.map_append,List.nodup_append];refine ⟨h4,by simp,fun a hma b hb=>?_⟩;simp at hb;subst hb;obtain ⟨x,hx,rfl⟩:=List.mem_map.1 hma;exact hno x hx
theorem right_cut {l:List Ent} {next:Int} (h:Right l next) (k:Nat):Right (l.eraseIdx k) next:=by
  obtain ⟨h1,h2,h3,h4⟩:=right_iff.1 h;have hsub:=List.eraseIdx_sublist l k;refine right_iff.2 ⟨h1,fun x hx=>h2 x (hsub.mem hx),h3.sublist hsub,?_⟩;unfold apart at h4 ⊢;exact (hsub.map _).nodup h4
end Fo
end Go.Proofs.YtneojimodomohaaGreat
namespace Go.Proofs.YtneojimodomohaaGreat
open It
namespace Sp
theorem cset (q:En->Bool):∀ (L:List Ino) (k:Nat) (x y:Ino),L[k]? = some x->(allEnts (L.set k y)).countP q + x.ents.countP q = (allEnts L).countP q + y.ents.countP q
 | [],k,x,y,h=>by simp at h
 | z :: L,0,x,y,h=>by
  simp at h;subst h;simp only [allEnts,List.set_cons_zero,List.flatMap_cons,List.countP_append];omega
 | z :: L,k + 1,x,y,h=>by
  have ih:=cset q L k x y (by simpa using h);unfold allEnts at ih ⊢;rw [List.set_cons_succ,List.flatMap_cons,List.flatMap_cons,List.countP_append,List.countP_append];omega
theorem cerase (q:En->Bool):∀ (l:List En) (j:Nat) (e:En),l[j]? = some e->(l.eraseIdx j).countP q + (if q e = true then 1 else 0) = l.countP q
 | [],j,e,h=>by simp at h
 | z :: l,0,e,h=>by
  simp at h;subst h;rw [List.eraseIdx_cons_zero,List.countP_cons]
 | z :: l,j + 1,e,h=>by
  have ih:=cerase q l j e (by simpa using h);rw [List.eraseIdx_cons_succ,List.countP_cons,List.countP_cons];omega
theorem erase_sup {l:List En} {j:Nat} {e:En} (h:l[j]? = some e):∀ x∈l,x∈l.eraseIdx j∨x = e:=by
 intro x hx;obtain ⟨i,hi⟩:=List.mem_iff_getElem?.1 hx
 by_cases hij:i = j
 ·subst hij;rw [h] at hi;exact .inr (Option.some.inj hi).symm
 ·left;rcases Nat.lt_or_gt_of_ne hij with h1 | h1
  ·exact List.mem_of_getElem? (i:=i) (by rw [List.getElem?_eraseIdx,if_pos h1];exact hi)
  ·refine List.mem_of_getElem? (i:=i - 1) ?_;rw [List.getElem?_eraseIdx,if_neg (by omega),show i - 1 + 1 = i by omega];exact hi
theorem isSp_mk {L:List Ino} (hr:It.right L = true) (ho:okAll L) (ha:∀ c,dirAt L c = true->∃ d,Anc L d 0 c):isSp L = true :=
 isSp_iff.2 ⟨hr,ok_folds ho,ok_cntB hr ho,(reachB_iff (tree_of hr (ok_folds ho) (ok_cntB hr ho)) (right_len hr).2).2 ha⟩
theorem isSp_reach {L:List Ino} (hs:isSp L = true) {c:Nat} (hc:dirAt L c = true):∃ d,Anc L d 0 c:=by
 obtain ⟨h1,_,_,h4⟩:=isSp_iff.1 hs;exact (reachB_iff (isSp_tree hs) (right_len h1).2).1 h4 c hc
theorem dirAt_iff {L:List Ino} {c:Nat}:dirAt L c = true ↔ ∃ x,L[c]? = some x/\x.kind = 2:=by
 unfold dirAt
 cases h:L[c]? with
 | none=>simp
 | some x=>simp
theorem child_iff {L:List Ino} {p c:Nat}:Child L p c ↔ (∃ x,L[p]? = some x/\∃ e∈x.ents,e.2.2.1 = (c:Int))/\dirAt L c = true:=by
 unfold Child;refine and_congr ⟨?_,?_⟩ Iff.rfl
 ·rintro ⟨e,he,hc⟩;obtain ⟨x,hx,hex⟩:=mem_entsAt.1 he;exact ⟨x,hx,e,hex,by simpa [toNo] using hc⟩
 ·rintro ⟨x,hx,e,he,hc⟩;exact ⟨e,mem_entsAt.2 ⟨x,hx,he⟩,by simp [toNo,hc]⟩
theorem anc_mono {L L':List Ino} (h:∀ p c,Child L p c->Child L' p c):∀ (d a c:Nat),Anc L d a c->Anc L' d a c
 | 0,_,_,ha=>ha
 | d + 1,a,c,ha=>by
  obtain ⟨p,h1,h2⟩:=ha;exact ⟨p,anc_mono h d a p h1,h p c h2⟩
theorem get_two {L:List Ino} {kc kt:Nat} {xc xt y z:Ino} (hne:kc≠kt) (hc:L[kc]? = some xc) (ht:L[kt]? = some xt) (i:Nat):((L.set kc y).set kt z)[i]? = if i = kt then some z else if i = kc then some y else L[i]?:=by
 have hcl:=(qM hc);have htl:=(qM ht);rw [List.getElem?_set]
 by_cases h1:i = kt
 ·subst h1;simp [htl]
 ·rw [if_neg (fun h=>h1 h.symm),if_neg h1,List.getElem?_set]
  by_cases h2:i = kc
  ·subst h2;simp [hcl]
  ·rw [if_neg (fun h=>h2 h.symm),if_neg h2]
theorem names_to {L L':List Ino} {a b:Int} (h:names L a b = true) (hK:∀ (k:Nat) x,L[k]? = some x->a = k->x.kind≠0->∃ x',L'[k]? = some x'/\x'.gen = x.gen/\x'.kind = x.kind):names L' a b = true:=by
 obtain ⟨i,x,hx,hno,hg,hk⟩:=names_iff.1 h;obtain ⟨x',h1,h2,h3⟩:=hK i x hx hno hk;exact names_iff.2 ⟨i,x',h1,hno,by rw [h2];exact hg,by rw [h3];exact hk⟩
theorem all_of {L:List Ino} {p:Nat} {x:Ino} {e:En} (h:L[p]? = some x) (he:e∈x.ents):e∈allEnts L:=List.mem_flatMap.2 ⟨x,List.mem_of_getElem? h,he⟩
theorem stays_file {L:List Ino} {kc kt:Nat} {xc xt:Ino} {es:List Ent} {nx st n:Int} (hs:isSp L = true) (hc:L[kc]? = some xc) (hk:xc.kind = 2) (ht:L[kt]? = some xt) (hkt:xt.kind = 1) (hst:0<=st/\st<=1099511627776)
  (hR:Fo.Right es nx) (hlen:es.length<=1048576) (hlk:0<=xt.links + n/\xt.links + n<=64) (hcount:∀ i:Int,(es.countP (toI i):Int) = xc.ents.countP (toI i) + (if i = kt then n else 0))
  (hmem:∀ e∈es,e∈xc.ents∨e.2.2 = ((kt:Int),xt.gen)) (hsup:∀ e∈xc.ents,e∈es∨e.2.2.1 = kt):isSp ((L.set kc (filled xc es nx st)).set kt (linked xt n st)) = true:=by
 have h1:=(isSp_iff.1 hs).1;have ho:=isSp_ok hs;have hne:kc≠kt:=by
  rintro rfl;rw [hc] at ht
  cases ht
  omega
 have hone:=(It.right_iff.1 h1).2.2;obtain ⟨L',hL'⟩:=qF ((L.set kc (filled xc es nx st)).set kt (linked xt n st));have hg:∀ i,L'[i]? = if i = kt then some (linked xt n st) else if i = kc then some (filled xc es nx st) else L[i]?:=by
  rw [hL'];exact get_two hne hc ht
 have ht1:(L.set kc (filled xc es nx st))[kt]? = some xt:=by rw [List.getElem?_set_ne hne];exact ht
 have hr:It.right L' = true:=by
  rw [hL'];have r1:=right_set h1 hc (one_filled (hone xc (List.mem_of_getElem? hc)) hk hst hlen (nx:=nx)) rfl;exact right_set r1 ht1 (one_linked (hone xt (List.mem_of_getElem? ht)) hkt hst hlk) rfl
 have hn:∀ i:Int,(nmv L' i:Int) = nmv L i + (if i = kt then n else 0):=by
  intro i;have c1:=cset (toI i) L kc xc (filled xc es nx st) hc;have c2:=cset (toI i) (L.set kc (filled xc es nx st)) kt xt (linked xt n st) ht1;have c3:=hcount i;have e1:(filled xc es nx st).ents = es:=rfl;have e2:(linked xt n st).ents = xt.ents:=rfl;rw [e1] at c1;rw [e2] at c2;rw [hL'];unfold nmv;omega
 rw [← hL'];have hkeep:∀ (k:Nat) x,L[k]? = some x->∃ x',L'[k]? = some x'/\x'.gen = x.gen/\x'.kind = x.kind:=by
  intro k x hx;rw [hg]
  by_cases e1:k = kt
  ·subst e1;rw [ht] at hx
   cases hx
   exact ⟨_,if_pos rfl,rfl,rfl⟩
  ·rw [if_neg e1]
   by_cases e2:k = kc
   ·subst e2;rw [hc] at hx
    cases hx
    exact ⟨_,if_pos rfl,rfl,rfl⟩
   ·rw [if_neg e2];exact ⟨x,hx,rfl,rfl⟩
 have hnm:∀ a b,names L a b = true->names L' a b = true:=fun a b h=>names_to h fun k x hx _ _=>hkeep k x hx
 have hnt:names L kt xt.gen = true:=names_iff.2 ⟨kt,xt,ht,rfl,rfl,by omega⟩;have hall:∀ e∈allEnts L,names L e.2.2.1 e.2.2.2 = true:=ok_named h1 ho;have hk0:kt≠0:=by
  rintro rfl;have:=root_kind h1 ht;omega
 refine isSp_mk hr (fun i x' hx'=>?_) fun c hd=>?_
 ·rw [hg] at hx';have hni:=hn (i:Int);split at hx'
  ·rename_i e1
   cases hx'
   subst e1;obtain ⟨_,_,n1,n2,n3⟩:=ho i xt ht;rw [if_pos rfl] at hni;refine ⟨fun h=>?_,fun h=>?_,fun h=>?_,fun h=>?_,fun h=>absurd h hk0⟩
   ·have h2:xt.kind = 2:=h;omega
   ·have h2:xt.kind = 2:=h;omega
   ·have h3:=n1 hkt;show (nmv L' i:Int) = xt.links + n;omega
   ·have h2:xt.kind = 2:=h;omega
  ·rename_i e1
   rw [if_neg (by omega)] at hni;split at hx'
   ·rename_i e2
    cases hx'
    subst e2;obtain ⟨_,_,n1,n2,n3⟩:=ho i xc hc;refine ⟨fun _=>⟨hR,rfl⟩,fun _ e he=>?_,fun h=>?_,fun h h0=>?_,fun h=>?_⟩
    ·rcases hmem e he with h | h
     ·exact hnm _ _ (hall e (all_of hc h))
     ·rw [h];exact hnm _ _ hnt
    ·have h2:xc.kind = 1:=h;omega
    ·have:=n2 hk h0;omega
    ·have:=n3 h;omega
   ·obtain ⟨o1,o2,n1,n2,n3⟩:=ho i x' hx';refine ⟨o1,fun h e he=>hnm _ _ (o2 h e he),fun h=>?_,fun h h0=>?_,fun h=>?_⟩
    ·have:=n1 h;omega
    ·have:=n2 h h0;omega
    ·have:=n3 h;omega
 ·have hdl:∀ c,dirAt L' c = true->dirAt L c = true:=fun c hd=>by
   obtain ⟨x',hx',hk'⟩:=dirAt_iff.1 hd;rw [hg] at hx';split at hx'
   ·cases hx'
    have h2:xt.kind = 2:=hk';omega
   ·split at hx'
    ·rename_i e2
     subst e2;exact dirAt_iff.2 ⟨xc,hc,hk⟩
    ·exact dirAt_iff.2 ⟨x',hx',hk'⟩
  have hdr:∀ c,dirAt L c = true->dirAt L' c = true:=fun c hd=>by
   obtain ⟨x,hx,hkx⟩:=dirAt_iff.1 hd;obtain ⟨x',h1,_,h3⟩:=hkeep c x hx;exact dirAt_iff.2 ⟨x',h1,by rw [h3];exact hkx⟩
  obtain ⟨d,ha⟩:=isSp_reach hs (hdl c hd);refine ⟨d,anc_mono (fun p c hpc=>?_) d 0 c ha⟩;obtain ⟨⟨x,hx,e,he,hec⟩,hdc⟩:=child_iff.1 hpc;refine child_iff.2 ⟨?_,hdr c hdc⟩;rw [hg]
  by_cases e1:p = kt
  ·subst e1;rw [ht] at hx
   cases hx
   exact ⟨_,if_pos rfl,e,he,hec⟩
  ·rw [if_neg e1]
   by_cases e2:p = kc
   ·subst e2;rw [hc] at hx
    cases hx
    rcases hsup e he with h | h
    ·exact ⟨_,if_pos rfl,e,h,hec⟩
    ·exfalso;obtain ⟨x,hx,hkx⟩:=dirAt_iff.1 hdc;have:c = kt:=by omega
     subst this;rw [ht] at hx
     cases hx
     omega
   ·rw [if_neg e2];exact ⟨x,hx,e,he,hec⟩
theorem stays_rm {L : List Ino} {kc kt : Nat} {xc xt : Ino} {es : List Ent} {st : Int} (hs : isSp L = true) (hc : L[kc]? = some xc) (hk : xc.kind = 2) (ht : L[kt]? = some xt) (hkt : xt.kind = 2) (hte : xt.ents = []) (h0 : kt ≠ 0) (hne : kc ≠ kt) (hst : 0 ≤ st ∧ st ≤ 1099511627776)
    (hR:Fo.Right es xc.next) (hlen:es.length<=1048576) (hcount:∀ i:Int,(es.countP (toI i):Int) = xc.ents.countP (toI i) + (if i = kt then -1 else 0))
    (hmem:∀ e∈es,e∈xc.ents) (hsup:∀ e∈xc.ents,e∈es∨e.2.2.1 = kt):isSp ((L.set kc (filled xc es xc.next st)).set kt (gone xt.gen)) = true:=by
  have h1:=(isSp_iff.1 hs).1;have ho:=isSp_ok hs;have hone:=(It.right_iff.1 h1).2.2;obtain ⟨L',hL'⟩:=qF ((L.set kc (filled xc es xc.next st)).set kt (gone xt.gen));have hg:∀ i,L'[i]? = if i = kt then some (gone xt.gen) else if i = kc then some (filled xc es xc.next st) else L[i]?:=by
    rw [hL'];exact get_two hne hc ht
  have ht1:(L.set kc (filled xc es xc.next st))[kt]? = some xt:=by rw [List.getElem?_set_ne hne];exact ht
  have htl:=(List.getElem?_eq_some_iff.1 ht1).1;have hlen24:=right_len h1;have hr:It.right L' = true:=by
    rw [hL'];have r1:=right_set h1 hc (one_filled (hone xc (List.mem_of_getElem? hc)) hk hst hlen (nx:=xc.next)) rfl;have r2:=right_put (no:=kt) (x:=gone xt.gen) r1 (Nat.le_of_lt htl) (by rw [List.length_set] at htl;omega) (by omega) (one_gone (one_bd (hone xt (List.mem_of_getElem? ht))))
    rwa [put_set ht1] at r2
  have hn:∀ i:Int,(nmv L' i:Int) = nmv L i + (if i = kt then -1 else 0):=by
    intro i;have c1:=cset (toI i) L kc xc (filled xc es xc.next st) hc;have c2:=cset (toI i) (L.set kc (filled xc es xc.next st)) kt xt (gone xt.gen) ht1;have c3:=hcount i;have e1:(filled xc es xc.next st).ents = es:=rfl;have e2:(gone xt.gen).ents = []:=rfl;rw [e1] at c1;rw [e2,hte] at c2;rw [hL'];unfold nmv;omega
  rw [← hL'];have hkeep:∀ (k:Nat) x,L[k]? = some x->k≠kt->∃ x',L'[k]? = some x'/\x'.gen = x.gen/\x'.kind = x.kind:=by
    intro k x hx e1;rw [hg,if_neg e1]
    by_cases e2:k = kc
    · subst e2
      rw [hc] at hx
      cases hx
      exact ⟨_,if_pos rfl,rfl,rfl⟩
    · rw [if_neg e2]
      exact ⟨x,hx,rfl,rfl⟩
  have hz:(nmv L' (kt:Int):Int) = 0:=by
    have:=(ho kt xt ht).2.2.2.1 hkt (by omega);have h2:=hn (kt:Int);rw [if_pos rfl] at h2;omega
  have hall:∀ e∈allEnts L,names L e.2.2.1 e.2.2.2 = true:=ok_named h1 ho;have hnm:∀ e∈allEnts L',e∈allEnts L->names L' e.2.2.1 e.2.2.2 = true:=fun e he' he=>names_to (hall e he) fun k x hx hek _=>hkeep k x hx (by
    rintro rfl;have:nmv L' (k:Int) = 0:=by omega
    unfold nmv at this;exact List.countP_eq_zero.1 this e he' (by simp [toI,hek]))
  refine isSp_mk hr (fun i x' hx'=>?_) fun c hd=>?_
  · have hx'0 := hx'
    rw [hg] at hx';have hni:=hn (i:Int);split at hx'
    · rename_i e1
      cases hx'
      subst e1;refine ⟨fun h=>?_,fun h=>?_,fun h=>?_,fun h=>?_,fun h=>absurd h h0⟩
      all_goals
        first
          | (have h2 : (0 : Int) = 2 := h
             omega)
          | (have h2 : (0 : Int) = 1 := h
             omega)
    · rename_i e1
      rw [if_neg (by omega)] at hni;split at hx'
      · rename_i e2
        cases hx'
        subst e2;obtain ⟨_,_,n1,n2,n3⟩:=ho i xc hc;refine ⟨fun _=>⟨hR,rfl⟩,fun _ e he=>hnm e (all_of hx'0 he) (all_of hc (hmem e he)),fun h=>?_,fun h h0=>?_,fun h=>?_⟩
        · have h2 : xc.kind = 1 := h
          omega
        · have := n2 hk h0
          omega
        · have := n3 h
          omega
      · obtain ⟨o1, o2, n1, n2, n3⟩ := ho i x' hx'
        refine ⟨o1,fun h e he=>hnm e (all_of hx'0 he) (all_of hx' he),fun h=>?_,fun h h0=>?_,fun h=>?_⟩
        · have := n1 h
          omega
        · have := n2 h h0
          omega
        · have := n3 h
          omega
  · have hdl : ∀ c, dirAt L' c = true → dirAt L c = true ∧ c ≠ kt := fun c hd => by
      obtain ⟨x',hx',hk'⟩:=dirAt_iff.1 hd;rw [hg] at hx';split at hx'
      · cases hx'
        have h2:(0:Int) = 2:=hk';omega
      · rename_i e1
        refine ⟨?_,e1⟩;split at hx'
        · rename_i e2
          subst e2;exact dirAt_iff.2 ⟨xc,hc,hk⟩
        · exact dirAt_iff.2 ⟨x',hx',hk'⟩
    have hdr:∀ c,dirAt L c = true->c≠kt->dirAt L' c = true:=fun c hd hct=>by
      obtain ⟨x,hx,hkx⟩:=dirAt_iff.1 hd;obtain ⟨x',h1,_,h3⟩:=hkeep c x hx hct;exact dirAt_iff.2 ⟨x',h1,by rw [h3];exact hkx⟩
    have key:∀ (d c:Nat),Anc L d 0 c->c≠kt->Anc L' d 0 c:=by
      intro d
      induction d with
      | zero=>exact fun c ha _=>ha
      | succ d ih =>
        intro c ha hct;obtain ⟨p,hp,hpc⟩:=ha;obtain ⟨⟨x,hx,e,he,hec⟩,hdc⟩:=child_iff.1 hpc;have hpt:p≠kt:=by
          rintro rfl;rw [ht] at hx
          cases hx
          rw [hte] at he
          cases he
        refine ⟨p,ih p hp hpt,child_iff.2 ⟨?_,hdr c hdc hct⟩⟩;rw [hg,if_neg hpt]
        by_cases e2:p = kc
        · subst e2
          rw [hc] at hx
          cases hx
          rcases hsup e he with h | h
          · exact ⟨_,if_pos rfl,e,h,hec⟩
          · exact absurd (show c = kt by omega) hct
        · rw [if_neg e2]
          exact ⟨x,hx,e,he,hec⟩
    obtain ⟨hdc,hct⟩:=hdl c hd;obtain ⟨d,ha⟩:=isSp_reach hs hdc;exact ⟨d,key d c ha hct⟩
theorem stays_rn {L:List Ino} {kc kd kt:Nat} {xc x1:Ino} {es es2:List Ent} {nx st:Int} {e2:Ent} (hs:isSp L = true) (hc:L[kc]? = some xc) (hk:xc.kind = 2) (hd1:(L.set kc (filled xc es xc.next st))[kd]? = some x1) (hk1:x1.kind = 2) (hst:0<=st/\st<=1099511627776)
  (hR:Fo.Right es xc.next) (hlen:es.length<=1048576) (hR2:Fo.Right es2 nx) (hlen2:es2.length<=1048576) (he2:es2 = x1.ents ++ [e2]) (hto:e2.2.2.1 = kt) (hnt:names L e2.2.2.1 e2.2.2.2 = true)
  (hcount:∀ i:Int,(es.countP (toI i):Int) = xc.ents.countP (toI i) + (if i = kt then -1 else 0)) (hmem:∀ e∈es,e∈xc.ents) (hsup:∀ e∈xc.ents,e∈es∨e.2.2.1 = kt) (hin:dirAt L kt = true->¬ ∃ d,Anc L d kt kd):isSp ((L.set kc (filled xc es xc.next st)).set kd (filled x1 es2 nx st)) = true:=by
 have h1:=(isSp_iff.1 hs).1;have ho:=isSp_ok hs;have htree:=isSp_tree hs;have hone:=(It.right_iff.1 h1).2.2;have hcl:=(qM hc);have hdl1:=(qM hd1);obtain ⟨L1,hL1⟩:=qF (L.set kc (filled xc es xc.next st));have r1:It.right L1 = true:=by
  rw [hL1];exact right_set h1 hc (one_filled (hone xc (List.mem_of_getElem? hc)) hk hst hlen (nx:=xc.next)) rfl
 have hg1:∀ i,L1[i]? = if i = kc then some (filled xc es xc.next st) else L[i]?:=by
  intro i;rw [hL1,List.getElem?_set]
  by_cases h:i = kc
  ·subst h;simp [hcl]
  ·rw [if_neg (fun e=>h e.symm),if_neg h]
 rw [← hL1] at hd1 hdl1 ⊢;obtain ⟨L',hL'⟩:=qF (L1.set kd (filled x1 es2 nx st));have hg:∀ i,L'[i]? = if i = kd then some (filled x1 es2 nx st) else L1[i]?:=by
  intro i;rw [hL',List.getElem?_set]
  by_cases h:i = kd
  ·subst h;simp [hdl1]
  ·rw [if_neg (fun e=>h e.symm),if_neg h]
 have hr:It.right L' = true:=by
  rw [hL'];exact right_set r1 hd1 (one_filled ((It.right_iff.1 r1).2.2 x1 (List.mem_of_getElem? hd1)) hk1 hst hlen2 (nx:=nx)) rfl
 have hn:∀ i:Int,nmv L' i = nmv L i:=by
  intro i;have c1:=cset (toI i) L kc xc (filled xc es xc.next st) hc;have c2:=cset (toI i) L1 kd x1 (filled x1 es2 nx st) hd1;have c3:=hcount i;have e1:(filled xc es xc.next st).ents = es:=rfl;have e2':(filled x1 es2 nx st).ents = x1.ents ++ [e2]:=he2;rw [e1,← hL1] at c1;rw [e2',List.countP_append,List.countP_cons,List.countP_nil] at c2;have c4:(if toI i e2 = true then 1 else 0:Nat) = if i = kt then 1 else 0:=by
   by_cases h:i = kt
   ·rw [if_pos h,if_pos (by simp [toI,hto,h])]
   ·rw [if_neg h,if_neg (by simp [toI,hto];omega)]
  rw [c4] at c2;rw [hL'];unfold nmv;split at c2 <;> split at c3 <;> omega
 rw [← hL']
 -- what was there, with its folder's entries
 have hold:∀ (k:Nat) x,L[k]? = some x->∃ x',L'[k]? = some x'/\x'.gen = x.gen/\x'.kind = x.kind/\x'.links = x.links/\∀ e∈x.ents,e∈x'.ents∨e.2.2.1 = kt:=by
  intro k x hx;have m1:∃ y,L1[k]? = some y/\y.gen = x.gen/\y.kind = x.kind/\y.links = x.links/\∀ e∈x.ents,e∈y.ents∨e.2.2.1 = kt:=by
   rw [hg1]
   by_cases e1:k = kc
   ·subst e1;rw [hc] at hx
    cases hx
    exact ⟨_,if_pos rfl,rfl,rfl,rfl,hsup⟩
   ·rw [if_neg e1];exact ⟨x,hx,rfl,rfl,rfl,fun e he=>.inl he⟩
  obtain ⟨y,hy,y1,y2,y3,y4⟩:=m1;rw [hg]
  by_cases e1:k = kd
  ·subst e1;rw [hd1] at hy
   cases hy
   refine ⟨_,if_pos rfl,y1,y2,y3,fun e he=>?_⟩;rcases y4 e he with h | h
   ·left;show e∈es2;rw [he2];exact List.mem_append_left _ h
   ·exact .inr h
  ·rw [if_neg e1];exact ⟨y,hy,y1,y2,y3,y4⟩
 have hnew:∀ (k:Nat) x',L'[k]? = some x'->∃ x,L[k]? = some x/\x'.gen = x.gen/\x'.kind = x.kind/\x'.links = x.links/\(fold x')/\∀ e∈x'.ents,e∈x.ents∨e.2.2 = e2.2.2:=by
  have m1:∀ (k:Nat) y,L1[k]? = some y->∃ x,L[k]? = some x/\y.gen = x.gen/\y.kind = x.kind/\y.links = x.links/\fold y/\∀ e∈y.ents,e∈x.ents:=by
   intro k y hy;rw [hg1] at hy;split at hy
   ·rename_i e1
    subst e1
    cases hy
    exact ⟨xc,hc,rfl,rfl,rfl,fun _=>⟨hR,rfl⟩,hmem⟩
   ·exact ⟨y,hy,rfl,rfl,rfl,(ho k y hy).1,fun e he=>he⟩
  intro k x' hx';rw [hg] at hx';split at hx'
  ·rename_i e1
   subst e1
   cases hx'
   obtain ⟨x,hx,y1,y2,y3,_,y4⟩:=m1 k x1 hd1;refine ⟨x,hx,y1,y2,y3,fun _=>⟨hR2,rfl⟩,fun e he=>?_⟩;have he':e∈x1.ents ++ [e2]:=by rw [← he2];exact he
   rcases List.mem_append.1 he' with h | h
   ·exact .inl (y4 e h)
   ·exact .inr (by rw [List.mem_singleton.1 h])
  ·obtain ⟨x,hx,y1,y2,y3,y4,y5⟩:=m1 k x' hx';exact ⟨x,hx,y1,y2,y3,y4,fun e he=>.inl (y5 e he)⟩
 have hall:∀ e∈allEnts L,names L e.2.2.1 e.2.2.2 = true:=ok_named h1 ho;have hnm:∀ a b,names L a b = true->names L' a b = true:=fun a b h=>names_to h fun k x hx _ _=>by
  obtain ⟨x',a1,a2,a3,_⟩:=hold k x hx;exact ⟨x',a1,a2,a3⟩
 refine isSp_mk hr (fun i x' hx'=>?_) fun c hd=>?_
 ·obtain ⟨x,hx,y1,y2,y3,y4,y5⟩:=hnew i x' hx';obtain ⟨o1,o2,n1,n2,n3⟩:=ho i x hx;refine ⟨y4,fun h e he=>?_,fun h=>?_,fun h h0=>?_,fun h=>?_⟩
  ·rcases y5 e he with h | h
   ·exact hnm _ _ (hall e (all_of hx h))
   ·rw [h];exact hnm _ _ hnt
  ·rw [hn,n1 (by rw [← y2];exact h),y3]
  ·rw [hn];exact n2 (by rw [← y2];exact h) h0
  ·rw [hn];exact n3 h
 ·have hdl:∀ c,dirAt L' c = true->dirAt L c = true:=fun c hd=>by
   obtain ⟨x',hx',hk'⟩:=dirAt_iff.1 hd;obtain ⟨x,hx,_,y2,_⟩:=hnew c x' hx';exact dirAt_iff.2 ⟨x,hx,by rw [← y2];exact hk'⟩
  have hdr:∀ c,dirAt L c = true->dirAt L' c = true:=fun c hd=>by
   obtain ⟨x,hx,hkx⟩:=dirAt_iff.1 hd;obtain ⟨x',h1,_,h3,_⟩:=hold c x hx;exact dirAt_iff.2 ⟨x',h1,by rw [h3];exact hkx⟩
  have hch:∀ p c,Child L p c->c≠kt->Child L' p c:=fun p c hpc hct=>by
   obtain ⟨⟨x,hx,e,he,hec⟩,hdc⟩:=child_iff.1 hpc;obtain ⟨x',g1,_,_,_,g5⟩:=hold p x hx;rcases g5 e he with h | h
   ·exact child_iff.2 ⟨⟨x',g1,e,h,hec⟩,hdr c hdc⟩
   ·exact absurd (show c = kt by omega) hct
  obtain ⟨d,ha⟩:=isSp_reach hs (hdl c hd)
  cases hdt:dirAt L kt with
  | false =>
   refine ⟨d,anc_mono (fun p c hpc=>hch p c hpc ?_) d 0 c ha⟩;rintro rfl;rw [hpc.2] at hdt
   cases hdt
  | true =>
   have hno:=hin hdt;have k1:∀ (d c:Nat),Anc L d 0 c->(¬ ∃ m,Anc L m kt c)->Anc L' d 0 c:=by
    intro d
    induction d with
    | zero=>exact fun c ha _=>ha
    | succ d ih =>
     intro c ha hnc;obtain ⟨p,hp,hpc⟩:=ha;refine ⟨p,ih p hp fun ⟨m,hm⟩=>hnc ⟨m + 1,p,hm,hpc⟩,hch p c hpc ?_⟩;rintro rfl;exact hnc ⟨0,rfl⟩
   have hdd:dirAt L kd = true:=hdl kd (dirAt_iff.2 ⟨filled x1 es2 nx st,by rw [hg,if_pos rfl],hk1⟩);obtain ⟨m,hm⟩:=isSp_reach hs hdd;have hkd:=k1 m kd hm hno;have hct:Child L' kd kt:=child_iff.2 ⟨⟨filled x1 es2 nx st,by rw [hg,if_pos rfl],e2,by show e2∈es2;rw [he2];simp,hto⟩,hdr kt hdt⟩;obtain ⟨mt,hmt⟩:=isSp_reach hs hdt;have k2:∀ (d c:Nat),Anc L d kt c->∃ d',Anc L' d' 0 c:=by
    intro d
    induction d with
    | zero =>
     intro c ha;have e:kt = c:=ha;subst e;exact ⟨m + 1,kd,hkd,hct⟩
    | succ d ih =>
     intro c ha;have ha0:=ha;obtain ⟨p,hp,hpc⟩:=ha;obtain ⟨d',hd'⟩:=ih p hp;refine ⟨d' + 1,p,hd',hch p c hpc ?_⟩;rintro rfl;have:=anc_cycle htree hmt ha0;omega
   by_cases hb:∃ m,Anc L m kt c
   ·obtain ⟨m',hm'⟩:=hb;exact k2 m' c hm'
   ·exact ⟨d,k1 d c ha hb⟩
theorem stays_mk {L:List Ino} {kc nn:Nat} {xc:Ino} {es:List Ent} {nx st g kind:Int} {e2:Ent} (hs:isSp L = true) (hc:L[kc]? = some xc) (hk:xc.kind = 2) (hkind:kind = 1∨kind = 2) (hnn:(∃ x0,L[nn]? = some x0/\x0.kind = 0)∨nn = L.length) (hn0:1<=nn)
  (hr1:It.right (put L nn (fresh g kind st)) = true) (hst:0<=st/\st<=1099511627776) (hR:Fo.Right es nx) (hlen:es.length<=1048576) (he:es = xc.ents ++ [e2]) (hto:e2.2.2 = ((nn:Int),g)) :
  isSp ((put L nn (fresh g kind st)).set kc (filled xc es nx st)) = true:=by
 have h1:=(isSp_iff.1 hs).1;have ho:=isSp_ok hs;have hnl:nn<=L.length:=by
  rcases hnn with ⟨x0,hx0,_⟩ | h
  ·exact Nat.le_of_lt (qM hx0)
  ·omega
 have hne:kc≠nn:=by
  rintro rfl;rcases hnn with ⟨x0,hx0,hk0⟩ | h
  ·rw [hc] at hx0
   cases hx0
   omega
  ·have:=(qM hc);omega
 have hg1:=put_at (x:=fresh g kind st) hnl;have hc1:(put L nn (fresh g kind st))[kc]? = some xc:=by rw [hg1,if_neg hne];exact hc
 have hcl:=(qM hc1);obtain ⟨L',hL'⟩:=qF ((put L nn (fresh g kind st)).set kc (filled xc es nx st));have hg:∀ i,L'[i]? = if i = kc then some (filled xc es nx st) else if i = nn then some (fresh g kind st) else L[i]?:=by
  intro i;rw [hL',List.getElem?_set]
  by_cases h:i = kc
  ·subst h;simp [hcl]
  ·rw [if_neg (fun e=>h e.symm),if_neg h];exact hg1 i
 have hr:It.right L' = true:=by
  rw [hL'];exact right_set hr1 hc1 (one_filled ((It.right_iff.1 hr1).2.2 xc (List.mem_of_getElem? hc1)) hk hst hlen (nx:=nx)) rfl
 have hnone:∀ x,L[nn]? = some x->x.kind = 0:=by
  intro x hx;rcases hnn with ⟨x0,hx0,hk0⟩ | h
  ·rw [hx] at hx0
   cases hx0
   exact hk0
  ·rw [h] at hx;simp at hx
 have hall:∀ e∈allEnts L,names L e.2.2.1 e.2.2.2 = true:=ok_named h1 ho;have hz:nmv L (nn:Int) = 0:=by
  unfold nmv;refine List.countP_eq_zero.2 fun e hem hq=>?_
  obtain ⟨i,x,hx,hno,_,hkx⟩:=names_iff.1 (hall e hem);have hq':e.2.2.1 = (nn:Int):=by simpa [toI] using hq
  have:i = nn:=by omega
  subst this;exact hkx (hnone x hx)
 have hput:∀ q,(allEnts (put L nn (fresh g kind st))).countP q = (allEnts L).countP q:=by
  intro q;unfold put;split
  ·rename_i hlt
   have hx0:L[nn]? = some L[nn]:=List.getElem?_eq_getElem hlt;have c1:=cset q L nn _ (fresh g kind st) hx0;have e0:L[nn].ents = []:=by
    cases hl:L[nn].ents with
    | nil=>rfl
    | cons e r =>
     have h2:=ents_dir h1 hx0 (e:=e) (by rw [hl];simp);have h3:=hnone _ hx0;omega
   have e1:(fresh g kind st).ents = []:=rfl;rw [e0,e1] at c1;omega
  ·have e1:(fresh g kind st).ents = []:=rfl;simp [allEnts,e1]
 have hn:∀ i:Int,nmv L' i = nmv L i + (if i = nn then 1 else 0):=by
  intro i;have c2:=cset (toI i) (put L nn (fresh g kind st)) kc xc (filled xc es nx st) hc1;have e2':(filled xc es nx st).ents = xc.ents ++ [e2]:=he;rw [e2',List.countP_append,List.countP_cons,List.countP_nil,hput] at c2;have c4:(if toI i e2 = true then 1 else 0:Nat) = if i = nn then 1 else 0:=by
   by_cases h:i = nn
   ·rw [if_pos h,if_pos (by simp [toI,hto,h])]
   ·rw [if_neg h,if_neg (by simp [toI,hto];omega)]
  rw [c4] at c2;rw [hL'];unfold nmv;omega
 rw [← hL'];have hkeep:∀ (k:Nat) x,L[k]? = some x->x.kind≠0->∃ x',L'[k]? = some x'/\x'.gen = x.gen/\x'.kind = x.kind/\∀ e∈x.ents,e∈x'.ents:=by
  intro k x hx hkx;rw [hg]
  by_cases e1:k = kc
  ·subst e1;rw [hc] at hx
   cases hx
   refine ⟨_,if_pos rfl,rfl,rfl,fun e hem=>?_⟩;show e∈es;rw [he];exact List.mem_append_left _ hem
  ·rw [if_neg e1,if_neg (by rintro rfl;exact hkx (hnone x hx))];exact ⟨x,hx,rfl,rfl,fun e h=>h⟩
 have hnm:∀ a b,names L a b = true->names L' a b = true:=fun a b h=>names_to h fun k x hx _ hkx=>by
  obtain ⟨x',a1,a2,a3,_⟩:=hkeep k x hx hkx;exact ⟨x',a1,a2,a3⟩
 have hnew:L'[nn]? = some (fresh g kind st):=by rw [hg,if_neg (fun e=>hne e.symm),if_pos rfl]
 have hnn2:names L' nn g = true:=names_iff.2 ⟨nn,_,hnew,rfl,rfl,by show kind≠0;rcases hkind with h | h <;> rw [h] <;> decide⟩;refine isSp_mk hr (fun i x' hx'=>?_) fun c hd=>?_
 ·rw [hg] at hx';have hni:=hn (i:Int);split at hx'
  ·rename_i e1
   cases hx'
   subst e1;rw [if_neg (by omega)] at hni;obtain ⟨_,_,n1,n2,n3⟩:=ho i xc hc;refine ⟨fun _=>⟨hR,rfl⟩,fun _ e hem=>?_,fun h=>?_,fun h h0=>?_,fun h=>?_⟩
   ·have hem':e∈xc.ents ++ [e2]:=by rw [← he];exact hem
    rcases List.mem_append.1 hem' with h | h
    ·exact hnm _ _ (hall e (all_of hc h))
    ·rw [List.mem_singleton.1 h,hto];exact hnn2
   ·have h2:xc.kind = 1:=h;omega
   ·have:=n2 hk h0;omega
   ·have:=n3 h;omega
  ·split at hx'
   ·rename_i e1
    cases hx'
    subst e1;rw [if_pos rfl,hz] at hni;refine ⟨fun _=>⟨Fo.right_0,rfl⟩,fun _ e hem=>(by cases hem),fun h=>?_,fun h h0=>?_,fun h=>?_⟩
    ·show (nmv L' i:Int) = 1;omega
    ·omega
    ·omega
   ·rename_i e1
    rw [if_neg (by omega)] at hni;obtain ⟨o1,o2,n1,n2,n3⟩:=ho i x' hx';refine ⟨o1,fun h e hem=>hnm _ _ (o2 h e hem),fun h=>?_,fun h h0=>?_,fun h=>?_⟩
    ·have:=n1 h;omega
    ·have:=n2 h h0;omega
    ·have:=n3 h;omega
 ·have hch:∀ p c,Child L p c->Child L' p c:=fun p c hpc=>by
   obtain ⟨⟨x,hx,e,hem,hec⟩,hdc⟩:=child_iff.1 hpc;obtain ⟨x',g1,_,_,g4⟩:=hkeep p x hx (by have:=ents_dir h1 hx hem;omega);obtain ⟨y,hy,hky⟩:=dirAt_iff.1 hdc;obtain ⟨y',b1,_,b3,_⟩:=hkeep c y hy (by omega);exact child_iff.2 ⟨⟨x',g1,e,g4 e hem,hec⟩,dirAt_iff.2 ⟨y',b1,by rw [b3];exact hky⟩⟩
  obtain ⟨m,hm⟩:=isSp_reach hs (dirAt_iff.2 ⟨xc,hc,hk⟩);have hm':=anc_mono hch m 0 kc hm
  by_cases hcn:c = nn
  ·subst hcn;exact ⟨m + 1,kc,hm',child_iff.2 ⟨⟨filled xc es nx st,by rw [hg,if_pos rfl],e2,by show e2∈es;rw [he];simp,by rw [hto]⟩,hd⟩⟩
  ·obtain ⟨x',hx',hk'⟩:=dirAt_iff.1 hd;rw [hg,if_neg hcn] at hx';have hdc:dirAt L c = true:=by
    split at hx'
    ·rename_i e1
     subst e1;exact dirAt_iff.2 ⟨xc,hc,hk⟩
    ·exact dirAt_iff.2 ⟨x',hx',hk'⟩
   obtain ⟨d,ha⟩:=isSp_reach hs hdc;exact ⟨d,anc_mono hch d 0 c ha⟩
end Sp
end Go.Proofs.YtneojimodomohaaGreat
