/- Sp19, Sp20, Sp21, Sp22, RefBase, SRef1, as one. -/
import Derived.Test.YtneojimodomohaaGreatV15
set_option maxHeartbeats 8000000
set_option maxRecDepth 100000
namespace Go.Proofs.YtneojimodomohaaGreat
section
open Go.ChangeShapes Go.WideShapes Go.ChangeAt Go.RowKit Go.Deep It
theorem smake_any {C:List Ino->Int} (hC:ChkSaid C) (hM:Sp.ChkMeans C) {S:Nat->Prop} (v:Value) (L:List Rw) (a b:Int) (s:ByteArray) (kind st:Int) (w:World) (hv:TabAt S w v L) (hok:Sp.okN L) (hs:s.size<=maxLen) :
  Calls Tryz.prog 145 #[v,.agg #[.int .i64 a,.int .i64 b],.string s,.int .i64 kind,.int .i64 st] w fun e w' =>
   ∃ u L',e = .returned (.tuple #[u,.agg #[.int .i64 (Sp.mkH C (pl L) a b s kind st).1,.int .i64 (Sp.mkH C (pl L) a b s kind st).2],.int .i64 (Sp.mkE C (pl L) a b s kind st)])/\TabAt (fun b=>w.heap.size<=b) w' u L'/\pl L' = Sp.mkT C (pl L) a b s kind st/\Bw w w':=by
 obtain ⟨W,hW⟩:=qF ((w.alloc (BH a b)).alloc (BH 0 0));have HB0:Hid (Bw w W):=by show Bw w W;rw [hW];exact (qG _ _).alloc (by simp) _
 have HA0:Hid (W.heap[w.heap.size]? = some (BH a b)):=by show W.heap[w.heap.size]? = _;rw [hW];exact (Below.heap_alloc _ _ _ (by simp)).trans (heap_alloc_new _ _)
 have HZ0:Hid (W.heap[w.heap.size + 1]? = some (BH 0 0)):=by
  show W.heap[w.heap.size + 1]? = _;rw [hW];have:=heap_alloc_new (w.alloc (BH a b)) (BH 0 0)
  rwa [show (w.alloc (BH a b)).heap.size = w.heap.size + 1 by simp] at this
 have hwz:w.heap.size + 1 < W.heap.size:=by rw [hW];simp
 have hws:w.heap.size < W.heap.size:=by omega
 have HV:Hid (TabAt S W v L):=hv.up HB0.out;obtain ⟨ao,cap,rfl,_,_⟩:=hv.open;have HOK:Hid (Sp.okN L):=hok;have HSM:Hid (s.size<=maxLen):=hs;have HCC:Hid (ChkSaid C):=hC;clear hv hok hs hC;obtain ⟨le,hle⟩:=qE (Sp.makeErr C (pl L) a b s kind st);have HLE:Hid (Sp.makeErr C (pl L) a b s kind st = le):=hle;obtain ⟨me,hme⟩:=qE (It.makeErr (pl L) kind st);obtain ⟨q1,q2,hq⟩:∃ q1 q2,makeH (pl L) kind st = (q1,q2):=⟨_,_,rfl⟩;have HMH:Hid (It.makeErr (pl L) kind st = me/\makeH (pl L) kind st = (q1,q2)):=⟨hme,hq⟩
 by_cases hz:le = 0
 ·subst hz;obtain ⟨⟨hc0,hs1,hs2⟩,hkk,hd⟩:=Sp.makeErr_zero hle;obtain ⟨hr,hfo,hlen,-⟩:=hM _ hc0;obtain ⟨kc,xc,rfl,hxc,hgc,hkc,hde,hdn,hfc,-⟩:=Sp.dir_get hd;obtain ⟨yc,hyc,rfl⟩:=Sp.pl_some hxc
  by_cases hm0:me = 0
  ·subst hm0;obtain ⟨ae,hae⟩:=qE (Fo.addErr yc.i.ents yc.i.next s q1 q2);have hE:Sp.mkE C (pl L) kc b s kind st = ae:=by unfold Sp.mkE;rw [if_pos hle,if_pos hme,hde,hdn,hq,hae]
   have HAE:Hid (Fo.addErr yc.i.ents yc.i.next s q1 q2 = ae):=hae;have hicd:findI (pl L) kc b = yc.i:=by
    obtain ⟨k',x',h1,h2,-,-,h3,-⟩:=Sp.find_get hfc;obtain rfl:kc = k':=by omega
    rw [hxc] at h2;rw [h3];exact (Option.some.inj h2).symm
   obtain ⟨hr1,hkeep⟩:=Sp.make_keep hme;have hx1:=hkeep kc yc.i hxc (by omega);obtain ⟨T1,hT1⟩:=qE (makeTab (pl L) kind st);rw [hT1] at hr1 hx1;have hlenc:=hlen yc.i (List.mem_of_getElem? hxc);have hone:=(It.right_iff.1 hr).2.2 yc.i (List.mem_of_getElem? hxc);have hst0:0<=st:=Int.le_trans (Sp.top_nonneg _) hs1;have hf1:findErr T1 kc b = 0:=by
    unfold findErr;rw [if_pos hr1,if_pos ?_];unfold names;rw [show ((kc:Int)).toNat = kc by omega,hx1];simp [hgc,hkc]
   have hp1:=(Sp.putTab_set (y:=Sp.filled yc.i (yc.i.ents ++ [(s,yc.i.next + 1,q1,q2)]) (yc.i.next + 1) st) hf1 hx1 hgc (by show yc.i.kind≠0;omega) (Sp.one_filled hone hkc ⟨hst0,hs2⟩ (by simp;omega)) rfl).2;obtain ⟨T2,hT2⟩:=qE (T1.set kc (Sp.filled yc.i (yc.i.ents ++ [(s,yc.i.next + 1,q1,q2)]) (yc.i.next + 1) st));have HP:Hid (putTab T1 kc b (Sp.filled yc.i (yc.i.ents ++ [(s,yc.i.next + 1,q1,q2)]) (yc.i.next + 1) st) = T2):=hp1.trans hT2;have hT:Sp.mkT C (pl L) kc b s kind st = if ae = 0 then T2 else []:=by
    unfold Sp.mkT;rw [hE,hicd,hq,hT1,← hT2];rfl
   have hH:Sp.mkH C (pl L) kc b s kind st = if ae = 0 then (q1,q2) else (0,0):=by unfold Sp.mkH;rw [hE,hq]
   have HADD:Hid (Fo.addErr yc.i.ents yc.i.next s q1 q2 = 0->yc.i.ents.length + 1<=3518437208883/\At.growErr yc.i.kind yc.i.links yc.i.size yc.i.stamp (yc.i.ents.length + 1) st = 0):=fun _=>⟨by omega,Sp.grow_ok hr hxc (by omega) ⟨hs1,hs2⟩ ⟨by omega,by omega⟩⟩
   have HYC:Hid (∀ e∈yc.i.ents,e.1.size<=maxLen):=HOK.out yc (List.mem_of_getElem? hyc);have HX1:Hid (T1[kc]? = some yc.i):=hx1;have HTT:Hid (makeTab (pl L) kind st = T1):=hT1;rw [hE,hT,hH];clear hle hc0 hs1 hs2 hkk hd hr hfo hlen hxc hgc hkc hde hdn hfc hyc hae hE hicd hr1 hkeep hx1 hT1 hlenc hone hst0 hf1 hp1 hT2 hT hH hme hq hM
   by_cases hz:ae = 0
   ·subst hz;rw [if_pos rfl,if_pos rfl];go_enter Tryz.func145,Tryz.ntmps145;obtain ⟨⟨a0,a1⟩,_⟩:=two_of HA0.out;go_wp2_with fail;rw [← hW];refine (refuseMake_any HCC.out _ L kc b s kind st _ HV.out HOK.out HSM.out).mono ?_;rintro e w1 ⟨rfl,hb1⟩;rw [HLE.out];have HB1:Hid (Bw w w1):=HB0.out.trans (hb1.mono HB0.out.size);have HA1:=qK hb1 HA0;have HZ1:=qK hb1 HZ0;have hwz1:w.heap.size + 1 < w1.heap.size:=(qL HZ1.out);have hwa1:w.heap.size < w1.heap.size:=by omega
    have HV1:Hid (TabAt S w1 (.slice ao L.length cap) L):=HV.out.up hb1;clear hb1 hW HV HA0 HZ0 a0 a1;go_wp2_with fail;refine (make_any _ L kind st _ HV1.out).mono ?_;rintro e w2 ⟨u,L1,rfl,ht,hp,hb2⟩;rw [HMH.out.1,HMH.out.2];have HB2:Hid (Bw w w2):=HB1.out.trans (hb2.mono HB1.out.size);have HA2:Hid (w2.heap[w.heap.size]? = some (BH kc b)):=(hb2.block _ (by omega)).trans HA1.out;have HZ2:=qK hb2 HZ1;have hwz2:w.heap.size + 1 < w2.heap.size:=(qL HZ2.out);have hwa2:w.heap.size < w2.heap.size:=by omega
    have HT1:Hid (TabAt (fun b=>w1.heap.size<=b) w2 u L1):=ht;have HPL:Hid (pl L1 = T1):=hp.trans HTT.out;obtain ⟨y1,hy1,hyi⟩:=Sp.pl_some (L:=L1) (k:=kc) (x:=yc.i) (by rw [HPL.out];exact HX1.out);have HY1:Hid (L1[kc]? = some y1/\y1.i = yc.i):=⟨hy1,hyi⟩;obtain ⟨W2,hW2⟩:=qF (w2.alloc (BH q1 q2));have bb2:Bw w2 W2:=by rw [hW2];exact qG _ _
    have HBW:Hid (Bw w W2):=HB2.out.trans (bb2.mono HB2.out.size);have HAW:Hid (W2.heap[w.heap.size]? = some (BH kc b)/\W2.heap[w2.heap.size]? = some (BH q1 q2)/\W2.heap[w.heap.size + 1]? = some (BH 0 0)):=⟨(bb2.block _ (by omega)).trans HA2.out,by rw [hW2];exact heap_alloc_new _ _,(bb2.block _ hwz2).trans HZ2.out⟩;have HTW:Hid (TabAt (fun b=>w1.heap.size<=b) W2 u L1):=HT1.out.up bb2;have hws2:w2.heap.size < W2.heap.size:=(qL HAW.out.2.1);have hwz3:w.heap.size + 1 < W2.heap.size:=(qL HAW.out.2.2);obtain ⟨⟨a0,a1⟩,_⟩:=two_of HA2.out;clear hb2 ht hp hy1 hyi bb2;go_wp2_with fail;rw [← hW2];refine (sadd_any _ L1 kc b q1 q2 st s y1 _ HTW.out HY1.out.1 (by rw [HY1.out.2];exact HYC.out) HSM.out (by rw [HY1.out.2];exact HADD.out)).mono ?_;rintro e w3 ⟨u3,L3,rfl,ht3,hp3,hb3⟩;rw [HY1.out.2] at hp3 ⊢;rw [HAE.out] at hp3 ⊢;have HB3:Hid (Bw w w3):=HBW.out.trans (hb3.mono HBW.out.size);have HZ3:Hid (w3.heap[w.heap.size + 1]? = some (BH 0 0)):=(hb3.block _ hwz3).trans HAW.out.2.2;have HQ3:Hid (w3.heap[w2.heap.size]? = some (BH q1 q2)):=(hb3.block _ hws2).trans HAW.out.2.1;have hwz4:w.heap.size + 1 < w3.heap.size:=(qL HZ3.out);obtain ⟨⟨z0,z1⟩,zf⟩:=two_of HZ3.out;obtain ⟨⟨p0,p1⟩,pf⟩:=two_of HQ3.out;rw [if_pos rfl,HPL.out,HP.out] at hp3;have HT3:Hid (TabAt (fun b=>W2.heap.size<=b) w3 u3 L3):=ht3;have HP3:Hid (pl L3 = T2):=hp3;clear hb3 ht3 hp3 a0 a1 hW2;go_wp2_with fail
    go_region
    all_goals
     go_wp2
     (try simp only [Exit.inBlock,Exit.then])
    refine bodyPost_ret (v:=.tuple #[u3,.agg #[.int .i64 q1,.int .i64 q2],.int .i64 0]) ?_ rfl ?_
    ·rw [results_tct rfl]
     go_simp
    ·have hbe:=HB3.out;have hfin:TabAt (fun b=>w.heap.size<=b) ((w3.setCell ⟨w.heap.size + 1,0,none⟩ (.int .i64 q1)).setCell ⟨w.heap.size + 1,1,none⟩ (.int .i64 q2)) u3 L3:=by
      refine ⟨?_,fun y hy=>?_⟩
      ·refine At.imp (S:=fun b=>W2.heap.size<=b) ?_ (fun b hb _=>by omega)
       repeat (refine At.setCell ?_ (by simp;omega) _)
       exact HT3.out.1
      ·refine Good.imp (S:=fun b=>W2.heap.size<=b) ?_ (fun b hb _=>by omega)
       repeat (refine Good.setCell ?_ (by simp;omega) _)
       exact HT3.out.2 y hy
     have hbf:Bw w ((w3.setCell ⟨w.heap.size + 1,0,none⟩ (.int .i64 q1)).setCell ⟨w.heap.size + 1,1,none⟩ (.int .i64 q2)):=by
      repeat (first | exact hbe | refine Below.setCell ?_ (by simp) _)
     first
      | exact ⟨u3,rfl,L3,hfin,HP3.out,bel_drew hbf⟩
      | exact ⟨u3,L3,rfl,hfin,HP3.out,bel_drew hbf⟩
   ·rw [if_neg hz,if_neg hz];have hz':(ae != 0) = true:=by simpa using hz
    go_enter Tryz.func145,Tryz.ntmps145;obtain ⟨⟨a0,a1⟩,_⟩:=two_of HA0.out;go_wp2_with fail;rw [← hW];refine (refuseMake_any HCC.out _ L kc b s kind st _ HV.out HOK.out HSM.out).mono ?_;rintro e w1 ⟨rfl,hb1⟩;rw [HLE.out];have HB1:Hid (Bw w w1):=HB0.out.trans (hb1.mono HB0.out.size);have HA1:=qK hb1 HA0;have HZ1:=qK hb1 HZ0;have hwz1:w.heap.size + 1 < w1.heap.size:=(qL HZ1.out);have hwa1:w.heap.size < w1.heap.size:=by omega
    have HV1:Hid (TabAt S w1 (.slice ao L.length cap) L):=HV.out.up hb1;clear hb1 hW HV HA0 HZ0 a0 a1;go_wp2_with fail;refine (make_any _ L kind st _ HV1.out).mono ?_;rintro e w2 ⟨u,L1,rfl,ht,hp,hb2⟩;rw [HMH.out.1,HMH.out.2];have HB2:Hid (Bw w w2):=HB1.out.trans (hb2.mono HB1.out.size);have HA2:Hid (w2.heap[w.heap.size]? = some (BH kc b)):=(hb2.block _ (by omega)).trans HA1.out;have HZ2:=qK hb2 HZ1;have hwz2:w.heap.size + 1 < w2.heap.size:=(qL HZ2.out);have hwa2:w.heap.size < w2.heap.size:=by omega
    have HT1:Hid (TabAt (fun b=>w1.heap.size<=b) w2 u L1):=ht;have HPL:Hid (pl L1 = T1):=hp.trans HTT.out;obtain ⟨y1,hy1,hyi⟩:=Sp.pl_some (L:=L1) (k:=kc) (x:=yc.i) (by rw [HPL.out];exact HX1.out);have HY1:Hid (L1[kc]? = some y1/\y1.i = yc.i):=⟨hy1,hyi⟩;obtain ⟨W2,hW2⟩:=qF (w2.alloc (BH q1 q2));have bb2:Bw w2 W2:=by rw [hW2];exact qG _ _
    have HBW:Hid (Bw w W2):=HB2.out.trans (bb2.mono HB2.out.size);have HAW:Hid (W2.heap[w.heap.size]? = some (BH kc b)/\W2.heap[w2.heap.size]? = some (BH q1 q2)/\W2.heap[w.heap.size + 1]? = some (BH 0 0)):=⟨(bb2.block _ (by omega)).trans HA2.out,by rw [hW2];exact heap_alloc_new _ _,(bb2.block _ hwz2).trans HZ2.out⟩;have HTW:Hid (TabAt (fun b=>w1.heap.size<=b) W2 u L1):=HT1.out.up bb2;have hws2:w2.heap.size < W2.heap.size:=(qL HAW.out.2.1);have hwz3:w.heap.size + 1 < W2.heap.size:=(qL HAW.out.2.2);obtain ⟨⟨a0,a1⟩,_⟩:=two_of HA2.out;clear hb2 ht hp hy1 hyi bb2;go_wp2_with fail;rw [← hW2];refine (sadd_any _ L1 kc b q1 q2 st s y1 _ HTW.out HY1.out.1 (by rw [HY1.out.2];exact HYC.out) HSM.out (by rw [HY1.out.2];exact HADD.out)).mono ?_;rintro e w3 ⟨u3,L3,rfl,ht3,hp3,hb3⟩;rw [HY1.out.2] at hp3 ⊢;rw [HAE.out] at hp3 ⊢;have HB3:Hid (Bw w w3):=HBW.out.trans (hb3.mono HBW.out.size);have HZ3:Hid (w3.heap[w.heap.size + 1]? = some (BH 0 0)):=(hb3.block _ hwz3).trans HAW.out.2.2;have HQ3:Hid (w3.heap[w2.heap.size]? = some (BH q1 q2)):=(hb3.block _ hws2).trans HAW.out.2.1;have hwz4:w.heap.size + 1 < w3.heap.size:=(qL HZ3.out);obtain ⟨⟨z0,z1⟩,zf⟩:=two_of HZ3.out;obtain ⟨⟨p0,p1⟩,pf⟩:=two_of HQ3.out;clear hb3 ht3 hp3 a0 a1 hW2 hz;go_wp2
    (try simp only [Exit.inBlock,Exit.then])
    refine bodyPost_ret (v:=.tuple #[.slice none 0 0,.agg #[.int .i64 0,.int .i64 0],.int .i64 ae]) ?_ rfl ?_
    ·rw [results_tct rfl]
     go_simp
    ·have hbe:=HB3.out;have hbs:=hbe.size
     first
      | exact ⟨_,rfl,[],tab_nil _ _,rfl,by repeat (first | exact hbe | refine Below.setCell ?_ (by simp) _ | refine Below.alloc ?_ (by simp;omega) _)⟩
      | exact ⟨_,[],rfl,tab_nil _ _,rfl,by repeat (first | exact hbe | refine Below.setCell ?_ (by simp) _ | refine Below.alloc ?_ (by simp;omega) _)⟩
  ·have hE:Sp.mkE C (pl L) kc b s kind st = me:=by unfold Sp.mkE;rw [if_pos hle,if_neg (by rw [hme];exact hm0),hme]
   have hT:Sp.mkT C (pl L) kc b s kind st = []:=by unfold Sp.mkT;rw [if_neg (by rw [hE];exact hm0)]
   have hH:Sp.mkH C (pl L) kc b s kind st = (0,0):=by unfold Sp.mkH;rw [if_neg (by rw [hE];exact hm0)]
   rw [hE,hT,hH];have hz':(me != 0) = true:=by simpa using hm0
   clear hle hc0 hs1 hs2 hkk hd hr hfo hlen hxc hgc hkc hde hdn hfc hyc hE hT hH hme hq hM hm0;go_enter Tryz.func145,Tryz.ntmps145;obtain ⟨⟨a0,a1⟩,_⟩:=two_of HA0.out;go_wp2_with fail;rw [← hW];refine (refuseMake_any HCC.out _ L kc b s kind st _ HV.out HOK.out HSM.out).mono ?_;rintro e w1 ⟨rfl,hb1⟩;rw [HLE.out];have HB1:Hid (Bw w w1):=HB0.out.trans (hb1.mono HB0.out.size);have HA1:=qK hb1 HA0;have HZ1:=qK hb1 HZ0;have hwz1:w.heap.size + 1 < w1.heap.size:=(qL HZ1.out);have hwa1:w.heap.size < w1.heap.size:=by omega
   have HV1:Hid (TabAt S w1 (.slice ao L.length cap) L):=HV.out.up hb1;clear hb1 hW HV HA0 HZ0 a0 a1;go_wp2_with fail;refine (make_any _ L kind st _ HV1.out).mono ?_;rintro e w2 ⟨u,L1,rfl,ht,hp,hb2⟩;rw [HMH.out.1,HMH.out.2];have HB2:Hid (Bw w w2):=HB1.out.trans (hb2.mono HB1.out.size);have HA2:Hid (w2.heap[w.heap.size]? = some (BH kc b)):=(hb2.block _ (by omega)).trans HA1.out;have HZ2:=qK hb2 HZ1;have hwz2:w.heap.size + 1 < w2.heap.size:=(qL HZ2.out);have hwa2:w.heap.size < w2.heap.size:=by omega
   obtain ⟨⟨z0,z1⟩,zf⟩:=two_of HZ2.out;clear hb2 ht hp;go_wp2
   (try simp only [Exit.inBlock,Exit.then])
   refine bodyPost_ret (v:=.tuple #[.slice none 0 0,.agg #[.int .i64 0,.int .i64 0],.int .i64 me]) ?_ rfl ?_
   ·rw [results_tct rfl]
    go_simp
   ·have hbe:=HB2.out;have hbs:=hbe.size
    first
     | exact ⟨_,rfl,[],tab_nil _ _,rfl,by repeat (first | exact hbe | refine Below.setCell ?_ (by simp) _ | refine Below.alloc ?_ (by simp;omega) _)⟩
     | exact ⟨_,[],rfl,tab_nil _ _,rfl,by repeat (first | exact hbe | refine Below.setCell ?_ (by simp) _ | refine Below.alloc ?_ (by simp;omega) _)⟩
 ·have hE:Sp.mkE C (pl L) a b s kind st = le:=by unfold Sp.mkE;rw [if_neg (by rw [hle];exact hz),hle]
  have hT:Sp.mkT C (pl L) a b s kind st = []:=by unfold Sp.mkT;rw [if_neg (by rw [hE];exact hz)]
  have hH:Sp.mkH C (pl L) a b s kind st = (0,0):=by unfold Sp.mkH;rw [if_neg (by rw [hE];exact hz)]
  rw [hE,hT,hH];have hz':(le != 0) = true:=by simpa using hz
  clear hz hE hT hH hle hme hq hM;go_enter Tryz.func145,Tryz.ntmps145;obtain ⟨⟨a0,a1⟩,_⟩:=two_of HA0.out;go_wp2_with fail;rw [← hW];refine (refuseMake_any HCC.out _ L a b s kind st _ HV.out HOK.out HSM.out).mono ?_;rintro e w1 ⟨rfl,hb1⟩;rw [HLE.out];have HB1:Hid (Bw w w1):=HB0.out.trans (hb1.mono HB0.out.size);have HA1:=qK hb1 HA0;have HZ1:=qK hb1 HZ0;have hwz1:w.heap.size + 1 < w1.heap.size:=(qL HZ1.out);have hwa1:w.heap.size < w1.heap.size:=by omega
  have HV1:Hid (TabAt S w1 (.slice ao L.length cap) L):=HV.out.up hb1;clear hb1 hW HV HA0 HZ0 a0 a1;obtain ⟨⟨z0,z1⟩,zf⟩:=two_of HZ1.out;go_wp2
  (try simp only [Exit.inBlock,Exit.then])
  refine bodyPost_ret (v:=.tuple #[.slice none 0 0,.agg #[.int .i64 0,.int .i64 0],.int .i64 le]) ?_ rfl ?_
  ·rw [results_tct rfl]
   go_simp
  ·have hbe:=HB1.out;have hbs:=hbe.size
   first
    | exact ⟨_,rfl,[],tab_nil _ _,rfl,by repeat (first | exact hbe | refine Below.setCell ?_ (by simp) _ | refine Below.alloc ?_ (by simp;omega) _)⟩
    | exact ⟨_,[],rfl,tab_nil _ _,rfl,by repeat (first | exact hbe | refine Below.setCell ?_ (by simp) _ | refine Below.alloc ?_ (by simp;omega) _)⟩
/-- What inside answers of a space and an inode's number: proved elsewhere. -/
def InsSaid (C:List Ino->Int) (I:List Ino->Int->Int->Bool):Prop:=∀ (S:Nat->Prop) (v:Value) (L:List Rw) (no to:Int) (w:World),TabAt S w v L->Sp.okN L->C (pl L) = 0->(∃ (k:Nat) (x:Ino),no = k/\(pl L)[k]? = some x/\x.kind≠0) ->
  Calls Tryz.prog 195 #[v,.int .i64 no,.int .i64 to] w fun e w'=>e = .returned (.bool (I (pl L) no to))/\Bw w w'
noncomputable def Sp.moveErr (I:List Ino->Int->Int->Bool) (L:List Ino) (no a b:Int) (s:ByteArray):Int:=if (nameErr L a b s = 0∨nameErr L a b s = 403)/\I L no a = true then 410 else nameErr L a b s
theorem refuseMove_any {C:List Ino->Int} {I:List Ino->Int->Int->Bool} (hI:InsSaid C I) {S:Nat->Prop} (v:Value) (L:List Rw) (no g a b:Int) (s:ByteArray) (w:World) (hv:TabAt S w v L) (hok:Sp.okN L) (hs:s.size<=maxLen) (hc:C (pl L) = 0) (hk:∃ (k:Nat) (x:Ino),no = k/\(pl L)[k]? = some x/\x.kind≠0) :
    Calls Tryz.prog 159 #[v,.agg #[.int .i64 no,.int .i64 g],.agg #[.int .i64 a,.int .i64 b],.string s] w fun e w'=>e = .returned (.int .i64 (Sp.moveErr I (pl L) no a b s))/\Bw w w':=by
  obtain ⟨W,hW⟩:=qF ((w.alloc (BH no g)).alloc (BH a b));have HB0:Hid (Bw w W):=by show Bw w W;rw [hW];exact (qG _ _).alloc (by simp) _
  have HA0:Hid (W.heap[w.heap.size]? = some (BH no g)/\W.heap[w.heap.size + 1]? = some (BH a b)):=by
    rw [hW];refine ⟨(Below.heap_alloc _ _ _ (by simp)).trans (heap_alloc_new _ _),?_⟩;have:=heap_alloc_new (w.alloc (BH no g)) (BH a b)
    rwa [show (w.alloc (BH no g)).heap.size = w.heap.size + 1 by simp] at this
  have hws:w.heap.size + 1 < W.heap.size:=by rw [hW];simp
  have HV:Hid (TabAt S W v L):=hv.up HB0.out;have HIN0:Hid (∀ V,Bw w V->Calls Tryz.prog 195 #[v,.int .i64 no,.int .i64 a] V fun e w'=>e = .returned (.bool (I (pl L) no a))/\Bw V w'):=fun V h=>hI S v L no a V (hv.up h) hok hc hk
  obtain ⟨ao,cap,rfl,_,_⟩:=hv.open;have HOK:Hid (Sp.okN L):=hok;have HSM:Hid (s.size<=maxLen):=hs;clear hv hok hs hI hc hk;obtain ⟨ne,hne⟩:=qE (Sp.nameErr (pl L) a b s);have HNE:Hid (Sp.nameErr (pl L) a b s = ne):=hne;obtain ⟨i,hi⟩:=qE (I (pl L) no a);have HIN:Hid (∀ V,Bw w V->Calls Tryz.prog 195 #[.slice ao L.length cap,.int .i64 no,.int .i64 a] V fun e w'=>e = .returned (.bool i)/\Bw V w'):=by rw [← hi];exact HIN0.out
  clear HIN0
  by_cases h1:ne = 0∨ne = 403
  · have hE : Sp.moveErr I (pl L) no a b s = if i = true then 410 else ne := by
      unfold Sp.moveErr;rw [hne,hi]
      by_cases h:i = true
      · rw [if_pos ⟨h1,h⟩,if_pos h]
      · rw [if_neg (fun x=>h x.2),if_neg h]
    rw [hE];clear hE hne hi;rcases h1 with rfl | rfl <;> cases i
    all_goals
      go_enter Tryz.func159,Tryz.ntmps159;obtain ⟨⟨a0,a1⟩,_⟩:=two_of HA0.out.1;obtain ⟨⟨g0,g1⟩,_⟩:=two_of HA0.out.2;go_wp2_with fail;rw [← hW];refine (refuseName_any _ L a b s _ HV.out HOK.out HSM.out).mono ?_;rintro e w1 ⟨rfl,hb1⟩;rw [HNE.out];have HB1:Hid (Bw w w1):=HB0.out.trans (hb1.mono HB0.out.size);have HA1:Hid (w1.heap[w.heap.size]? = some (BH no g)/\w1.heap[w.heap.size + 1]? = some (BH a b)):=⟨(hb1.block _ (by omega)).trans HA0.out.1,(hb1.block _ (by omega)).trans HA0.out.2⟩;clear hb1 hW a0 a1 g0 g1;obtain ⟨⟨a0,a1⟩,_⟩:=two_of HA1.out.1;obtain ⟨⟨g0,g1⟩,_⟩:=two_of HA1.out.2;go_wp2_with fail;refine (HIN.out _ HB1.out).mono ?_;rintro e w2 ⟨rfl,hb2⟩;have HB2:Hid (Bw w w2):=HB1.out.trans (hb2.mono HB1.out.size);clear hb2 a0 a1 g0 g1;go_wp2;go_ret;exact ⟨rfl,HB2.out⟩
  · have hE : Sp.moveErr I (pl L) no a b s = ne := by
      unfold Sp.moveErr;rw [hne,if_neg (fun x=>h1 x.1)]
    rw [hE];have z1:(ne == 0) = false:=beq_eq_false_iff_ne.2 fun h=>h1 (.inl h)
    have z2:(ne == 403) = false:=beq_eq_false_iff_ne.2 fun h=>h1 (.inr h)
    clear hE hne hi h1;go_enter Tryz.func159,Tryz.ntmps159;obtain ⟨⟨a0,a1⟩,_⟩:=two_of HA0.out.1;obtain ⟨⟨g0,g1⟩,_⟩:=two_of HA0.out.2;go_wp2_with fail;rw [← hW];refine (refuseName_any _ L a b s _ HV.out HOK.out HSM.out).mono ?_;rintro e w1 ⟨rfl,hb1⟩;rw [HNE.out];have HB1:Hid (Bw w w1):=HB0.out.trans (hb1.mono HB0.out.size);clear hb1 hW a0 a1 g0 g1;go_wp2;go_ret;exact ⟨rfl,HB1.out⟩
namespace Sp
theorem fold_le {st:Int} (L:List Ino):∀ m:Int,m<=st->(∀ x∈L,x.stamp<=st)->L.foldl (fun m x=>max m x.stamp) m<=st:=by
  induction L with
  | nil=>intro m hm _;exact hm
  | cons x L ih=>exact fun m hm h=>ih (max m x.stamp) (by have:=h x (by simp);omega) (fun y hy=>h y (by simp [hy]))
theorem top_le {st:Int} {L:List Ino} (h0:0<=st) (h:∀ x∈L,x.stamp<=st):top L<=st:=fold_le L 0 h0 h
theorem moveErr_zero {I:List Ino->Int->Int->Bool} {L:List Ino} {no a b:Int} {s:ByteArray} (h:moveErr I L no a b s = 0):dirErr L a b = 0:=by
  unfold moveErr at h;split at h
  · exact absurd h (by decide)
  · exact (nameErr_zero h).1
/-- The folder that a name moves to, in the table that has a name less. -/
noncomputable def midI (L:List Ino) (a b:Int) (s:ByteArray) (st c:Int):Ino:=((lessDir L a b s st)[c.toNat]?).getD zeroI
/-- What Rename tells. -/
noncomputable def rnE (C:List Ino->Int) (I:List Ino->Int->Int->Bool) (L:List Ino) (a b:Int) (s:ByteArray) (c d:Int) (s2:ByteArray) (st:Int):Int :=
  if toErr C L st a b s = 0 then (if moveErr I L (toH C L st a b s).1 c d s2 = 0 then Fo.addErr (midI L a b s st c).ents (midI L a b s st c).next s2 (toH C L st a b s).1 (toH C L st a b s).2 else moveErr I L (toH C L st a b s).1 c d s2) else toErr C L st a b s
noncomputable def rnT (C:List Ino->Int) (I:List Ino->Int->Int->Bool) (L:List Ino) (a b:Int) (s:ByteArray) (c d:Int) (s2:ByteArray) (st:Int):List Ino :=
  if rnE C I L a b s c d s2 st = 0 then (lessDir L a b s st).set c.toNat (filled (midI L a b s st c) ((midI L a b s st c).ents ++ [(s2,(midI L a b s st c).next + 1,(toH C L st a b s).1,(toH C L st a b s).2)]) ((midI L a b s st c).next + 1) st) else []
/-- What stands of the folder that a name moves to, between the two changes. -/
theorem mid {L:List Ino} {kc kd:Nat} {xc xd:Ino} {es:List Ent} {st:Int} (hxc:L[kc]? = some xc) (hkc:xc.kind = 2) (hlc:es.length<=1536) (hsub:∀ e∈es,e∈xc.ents) (hst:top L<=st/\st<=1099511627776)
    (hxd:L[kd]? = some xd) (hkd:xd.kind = 2) (hld:xd.ents.length<=1536) (hr1:It.right (L.set kc (filled xc es xc.next st)) = true) :
    ∃ x1 : Ino, (L.set kc (filled xc es xc.next st))[kd]? = some x1 ∧ x1.gen = xd.gen ∧ x1.kind = 2 ∧ x1.ents.length ≤ 1536 ∧ (∀ e ∈ x1.ents, e ∈ xd.ents) ∧ findErr (L.set kc (filled xc es xc.next st)) kd xd.gen = 0 ∧
      ∀ (e:Ent) (nx:Int),At.growErr x1.kind x1.links x1.size x1.stamp (x1.ents.length + 1) st = 0/\putTab (L.set kc (filled xc es xc.next st)) kd xd.gen (filled x1 (x1.ents ++ [e]) nx st) = (L.set kc (filled xc es xc.next st)).set kd (filled x1 (x1.ents ++ [e]) nx st):=by
  have hst0:0<=st:=Int.le_trans (top_nonneg _) hst.1;have htop:top (L.set kc (filled xc es xc.next st))<=st:=by
    refine top_le hst0 fun x hx=>?_
    rcases List.mem_or_eq_of_mem_set hx with h | rfl
    · exact Int.le_trans (top_ge h) hst.1
    · exact Int.le_refl _
  have key:∃ x1:Ino,(L.set kc (filled xc es xc.next st))[kd]? = some x1/\x1.gen = xd.gen/\x1.kind = 2/\x1.ents.length<=1536/\∀ e∈x1.ents,e∈xd.ents:=by
    by_cases h:kc = kd
    · subst h
      rw [hxc] at hxd;obtain rfl:=Option.some.inj hxd;refine ⟨filled xc es xc.next st,?_,rfl,hkc,hlc,hsub⟩;rw [List.getElem?_set_self (List.getElem?_eq_some_iff.1 hxc).1]
    · exact ⟨xd,by rw [List.getElem?_set_ne h];exact hxd,rfl,hkd,hld,fun _ h=>h⟩
  obtain ⟨x1,hx1,hg1,hk1,hl1,hs1⟩:=key;have hone:=(It.right_iff.1 hr1).2.2 x1 (List.mem_of_getElem? hx1);have hf1:findErr (L.set kc (filled xc es xc.next st)) kd xd.gen = 0:=by
    unfold findErr;rw [if_pos hr1,if_pos ?_];unfold names;rw [show ((kd:Int)).toNat = kd by omega,hx1];simp [hg1,hk1]
  refine ⟨x1,hx1,hg1,hk1,hl1,hs1,hf1,fun e nx=>⟨grow_ok hr1 hx1 (by omega) ⟨htop,hst.2⟩ ⟨by omega,by omega⟩,?_⟩⟩;exact (putTab_set (y:=filled x1 (x1.ents ++ [e]) nx st) hf1 hx1 hg1 (by show x1.kind≠0;omega) (one_filled hone hk1 ⟨hst0,hst.2⟩ (by simp;omega)) rfl).2
end Sp
theorem srename_any {C:List Ino->Int} {I:List Ino->Int->Int->Bool} (hC:ChkSaid C) (hM:Sp.ChkMeans C) (hI:InsSaid C I) {S:Nat->Prop} (v:Value) (L:List Rw) (a b:Int) (s:ByteArray) (c d:Int) (s2:ByteArray) (st:Int) (w:World) (hv:TabAt S w v L) (hok:Sp.okN L) (hs:s.size<=maxLen) (hs2:s2.size<=maxLen) :
  Calls Tryz.prog 108 #[v,.agg #[.int .i64 a,.int .i64 b],.string s,.agg #[.int .i64 c,.int .i64 d],.string s2,.int .i64 st] w fun e w' =>
   ∃ u L',e = .returned (.tuple #[u,.int .i64 (Sp.rnE C I (pl L) a b s c d s2 st)])/\TabAt (fun b=>w.heap.size<=b) w' u L'/\pl L' = Sp.rnT C I (pl L) a b s c d s2 st/\Bw w w':=by
 obtain ⟨W,hW⟩:=qF ((w.alloc (BH a b)).alloc (BH c d));have HB0:Hid (Bw w W):=by show Bw w W;rw [hW];exact (qG _ _).alloc (by simp) _
 have HA0:Hid (W.heap[w.heap.size]? = some (BH a b)/\W.heap[w.heap.size + 1]? = some (BH c d)):=by
  rw [hW];refine ⟨(Below.heap_alloc _ _ _ (by simp)).trans (heap_alloc_new _ _),?_⟩;have:=heap_alloc_new (w.alloc (BH a b)) (BH c d)
  rwa [show (w.alloc (BH a b)).heap.size = w.heap.size + 1 by simp] at this
 have hws:w.heap.size + 1 < W.heap.size:=by rw [hW];simp
 have HV:Hid _:=hv.up HB0.out;have HVW:Hid (∀ V,Bw w V->TabAt S V v L):=fun V h=>hv.up h
 obtain ⟨ao,cap,rfl,_,_⟩:=hv.open;have HOK:Hid _:=hok;have HSM:Hid (s.size<=maxLen/\s2.size<=maxLen):=⟨hs,hs2⟩;have HCC:Hid (ChkSaid C/\InsSaid C I):=⟨hC,hI⟩;obtain ⟨⟨q1,q2⟩,hq⟩:=qE (Sp.toH C (pl L) st a b s);obtain ⟨te,hte⟩:=qE (Sp.toErr C (pl L) st a b s);have HTE:Hid (Sp.toH C (pl L) st a b s = (q1,q2)/\Sp.toErr C (pl L) st a b s = te):=⟨hq,hte⟩;clear hv hok hs hs2 hC hI
 by_cases hz:te = 0
 ·subst hz;have hc0:C (pl L) = 0:=by
   have h:=hte;unfold Sp.toErr at h
   by_cases hse:Sp.stErr C (pl L) st = 0
   ·exact (Sp.stErr_zero hse).1
   ·rw [if_neg hse] at h;exact absurd h hse
  obtain ⟨kc,xc,j,en,kt,xt,rfl,hxc,hgc,hkc,hfc,hff,hpl,hj,hqe,hkt,hkt0,hxt,hgt,hkt2,hlk,hft,hit,hic,hr,hst,hlen⟩:=Sp.to_zero hM hte;rw [hq] at hqe;have hq1:q1 = kt:=by rw [← hkt,← hqe]
  obtain ⟨yc,hyc,rfl⟩:=Sp.pl_some hxc;have hst0:0<=st:=Int.le_trans (Sp.top_nonneg _) hst.1;have HCK:Hid (C (pl L) = 0/\∃ (k:Nat) (x:Ino),q1 = k/\(pl L)[k]? = some x/\x.kind≠0):=⟨hc0,kt,xt,hq1,hxt,hkt2⟩;obtain ⟨mv,hmv⟩:=qE (Sp.moveErr I (pl L) q1 c d s2);have HMV:Hid _:=hmv
  by_cases hm0:mv = 0
  ·subst hm0;obtain ⟨kd,xd,rfl,hxd,hgd,hkd,-,-,-,-⟩:=Sp.dir_get (Sp.moveErr_zero hmv);obtain ⟨yd,hyd,rfl⟩:=Sp.pl_some hxd;obtain ⟨hp1,hr1⟩:=Sp.less_right (s:=s) hr hxc hgc hkc hfc ⟨hst0,hst.2⟩ hlen;have hlend:=(hM _ hc0).2.2.1 yd.i (List.mem_of_getElem? hxd);obtain ⟨x1,hx1,hg1,hk1,hl1,hsub,hf1,hgp⟩:=Sp.mid (es:=yc.i.ents.eraseIdx (Fo.plc yc.i.ents yc.i.next s).toNat) (st:=st) hxc hkc (Nat.le_trans (List.length_eraseIdx_le ..) hlen) (fun e he=>List.mem_of_mem_eraseIdx he) hst hxd hkd hlend hr1;have hld:Sp.lessDir (pl L) kc b s st = (pl L).set kc (Sp.filled yc.i (yc.i.ents.eraseIdx (Fo.plc yc.i.ents yc.i.next s).toNat) yc.i.next st):=by
    unfold Sp.lessDir;rw [hic];rfl
   obtain ⟨T1,hT1⟩:=qE ((pl L).set kc (Sp.filled yc.i (yc.i.ents.eraseIdx (Fo.plc yc.i.ents yc.i.next s).toNat) yc.i.next st));rw [hT1] at hp1 hx1 hgp hld;have hmid:Sp.midI (pl L) kc b s st kd = x1:=by
    unfold Sp.midI;rw [hld,show ((kd:Int)).toNat = kd by omega,hx1];rfl
   obtain ⟨ae,hae⟩:=qE (Fo.addErr x1.ents x1.next s2 q1 q2);obtain ⟨T2,hT2⟩:=qE (T1.set kd (Sp.filled x1 (x1.ents ++ [(s2,x1.next + 1,q1,q2)]) (x1.next + 1) st));have hE:Sp.rnE C I (pl L) kc b s kd d s2 st = ae:=by
    unfold Sp.rnE;rw [hte,if_pos rfl,hq,hmv,if_pos rfl,hmid,hae]
   have hT:Sp.rnT C I (pl L) kc b s kd d s2 st = if ae = 0 then T2 else []:=by
    unfold Sp.rnT;rw [hE,hq,hmid,hld,show ((kd:Int)).toNat = kd by omega,hT2]
   have HAE:Hid _:=hae;have HP:Hid _:=hp1;have HPP:Hid (putTab T1 kd d (Sp.filled x1 (x1.ents ++ [(s2,x1.next + 1,q1,q2)]) (x1.next + 1) st) = T2):=by rw [← hgd,← hT2];exact (hgp _ _).2
   have HX1:Hid (T1[kd]? = some x1/\(∀ e∈x1.ents,e.1.size<=maxLen)/\x1.ents.length + 1<=3518437208883/\At.growErr x1.kind x1.links x1.size x1.stamp (x1.ents.length + 1) st = 0):=⟨hx1,fun e he=>HOK.out yd (List.mem_of_getElem? hyd) e (hsub e he),by omega,(hgp (s2,0,0,0) 0).1⟩;have HYC:Hid (L[kc]? = some yc/\(∀ e∈yc.i.ents,e.1.size<=maxLen)/\Fo.findErr yc.i.ents yc.i.next s = 0/\At.growErr yc.i.kind yc.i.links yc.i.size yc.i.stamp (yc.i.ents.eraseIdx (Fo.plc yc.i.ents yc.i.next s).toNat).length st = 0) :=
    ⟨hyc,HOK.out yc (List.mem_of_getElem? hyc),hff,Sp.grow_ok hr hxc (by omega) hst ⟨by omega,by have:=List.length_eraseIdx_le yc.i.ents (Fo.plc yc.i.ents yc.i.next s).toNat;omega⟩⟩
   obtain ⟨R,hR⟩:=qE (if ae = 0 then T2 else []);have HRR:Hid _:=hR;rw [hE,hT,hR];clear hR hc0 hxc hgc hkc hfc hff hpl hj hqe hkt hkt0 hxt hgt hkt2 hlk hft hit hic hr hst hlen hq1 hyc hst0 hmv hxd hgd hkd hyd hp1 hr1 hlend hx1 hg1 hk1 hl1 hsub hf1 hgp hld hT1 hmid hae hT2 hE hT hM hte hq;go_enter Tryz.func108,Tryz.ntmps108;obtain ⟨⟨a0,a1⟩,_⟩:=two_of HA0.out.1;go_wp2_with fail;rw [← hW];refine (toChange_any HCC.out.1 _ L kc b s st _ HV.out HOK.out HSM.out.1).mono ?_;rintro e w1 ⟨rfl,hb1⟩;rw [HTE.out.1,HTE.out.2];have HB1:=qJ HB0 hb1;have HA1:Hid (w1.heap[w.heap.size]? = some (BH kc b)/\w1.heap[w.heap.size + 1]? = some (BH kd d)):=⟨(hb1.block _ (by omega)).trans HA0.out.1,(hb1.block _ hws).trans HA0.out.2⟩;have hw11:w.heap.size + 1 < w1.heap.size:=(qL HA1.out.2);have hw10:w.heap.size < w1.heap.size:=by omega
   clear hb1 hW a0 a1;obtain ⟨W1,hW1⟩:=qF (w1.alloc (BH q1 q2));have bb1:Bw w1 W1:=by rw [hW1];exact qG _ _
   have HBW:=qJ HB1 bb1;have HAW:Hid (W1.heap[w.heap.size]? = some (BH kc b)/\W1.heap[w1.heap.size]? = some (BH q1 q2)/\W1.heap[w.heap.size + 1]? = some (BH kd d)):=⟨(bb1.block _ hw10).trans HA1.out.1,by rw [hW1];exact heap_alloc_new _ _,(bb1.block _ hw11).trans HA1.out.2⟩;have hwt1:w1.heap.size < W1.heap.size:=(qL HAW.out.2.1);obtain ⟨⟨g0,g1⟩,_⟩:=two_of HA1.out.2;clear bb1;go_wp2_with fail;rw [← hW1];refine (refuseMove_any HCC.out.2 _ L q1 q2 kd d s2 _ (HVW.out _ HBW.out) HOK.out HSM.out.2 HCK.out.1 HCK.out.2).mono ?_;rintro e w2 ⟨rfl,hb2⟩;rw [HMV.out];have HB2:=qJ HBW hb2;have HA2:Hid (w2.heap[w.heap.size]? = some (BH kc b)/\w2.heap[w1.heap.size]? = some (BH q1 q2)/\w2.heap[w.heap.size + 1]? = some (BH kd d)):=⟨(hb2.block _ (by omega)).trans HAW.out.1,(hb2.block _ hwt1).trans HAW.out.2.1,(hb2.block _ (by omega)).trans HAW.out.2.2⟩;clear hb2 hW1 g0 g1;have HSG:Hid (∀ w':World,Bw w2 w'->w'.cell? ⟨w.heap.size,0,none⟩ = some (.int .i64 kc)/\w'.cell? ⟨w.heap.size,1,none⟩ = some (.int .i64 b)/\w'.cell? ⟨w1.heap.size,0,none⟩ = some (.int .i64 q1)/\w'.cell? ⟨w1.heap.size,1,none⟩ = some (.int .i64 q2)/\w'.cell? ⟨w.heap.size + 1,0,none⟩ = some (.int .i64 kd)/\w'.cell? ⟨w.heap.size + 1,1,none⟩ = some (.int .i64 d)):=fun V h=>by
    obtain ⟨⟨a0,a1⟩,_⟩:=two_of HA2.out.1;obtain ⟨⟨t0,t1⟩,_⟩:=two_of HA2.out.2.1;obtain ⟨⟨g0,g1⟩,_⟩:=two_of HA2.out.2.2;exact ⟨cell_step a0 h,cell_step a1 h,cell_step t0 h,cell_step t1 h,cell_step g0 h,cell_step g1 h⟩
   have HREM:Hid (∀ V,Bw w2 V->Calls Tryz.prog 157 #[.slice ao L.length cap,.agg #[.int .i64 kc,.int .i64 b],.string s,.int .i64 st] V fun e w'=>∃ u L',e = .returned u/\TabAt (fun b=>V.heap.size<=b) w' u L'/\pl L' = T1/\Bw V w'):=fun V h=>(sremove_any _ L kc b st s yc V (HVW.out _ (HB2.out.trans (h.mono HB2.out.size))) HYC.out.1 HYC.out.2.1 HSM.out.1 HYC.out.2.2.1 HYC.out.2.2.2).mono fun e w' ⟨u,L',h1,h2,h3,h4⟩=>⟨u,L',h1,h2,by rw [h3];exact HP.out,h4⟩
   have HADD:Hid (∀ V u L1 (S:Nat->Prop),TabAt S V u L1->pl L1 = T1->Calls Tryz.prog 154 #[u,.agg #[.int .i64 kd,.int .i64 d],.string s2,.agg #[.int .i64 q1,.int .i64 q2],.int .i64 st] V fun e w'=>∃ u L',e = .returned (.tuple #[u,.int .i64 ae])/\TabAt (fun b=>V.heap.size<=b) w' u L'/\pl L' = R/\Bw V w'):=fun V u L1 S h hp=>by
    obtain ⟨y1,hy1,hyi⟩:=Sp.pl_some (L:=L1) (k:=kd) (x:=x1) (by rw [hp];exact HX1.out.1);refine (sadd_any u L1 kd d q1 q2 st s2 y1 V h hy1 (by rw [hyi];exact HX1.out.2.1) HSM.out.2 (by rw [hyi];exact fun _=>HX1.out.2.2)).mono fun e w' ⟨u,L',h1,h2,h3,h4⟩=>⟨u,L',?_,h2,?_,h4⟩
    ·rw [h1,hyi,HAE.out]
    ·rw [h3,hyi,HAE.out,hp,HPP.out,HRR.out]
   go_wp2_with fail
   go_region_held3 (fun w'=>w'.cell? ⟨w.heap.size,0,none⟩ = some (.int .i64 kc)/\w'.cell? ⟨w.heap.size,1,none⟩ = some (.int .i64 b)/\w'.cell? ⟨w1.heap.size,0,none⟩ = some (.int .i64 q1)/\w'.cell? ⟨w1.heap.size,1,none⟩ = some (.int .i64 q2)/\w'.cell? ⟨w.heap.size + 1,0,none⟩ = some (.int .i64 kd)/\w'.cell? ⟨w.heap.size + 1,1,none⟩ = some (.int .i64 d)) (first | exact HSG.out _ (by (repeat (first | assumption | exact Below.refl _ _ | refine bel_drew ?_ | refine Below.setCell ?_ (by first | exact Nat.le_refl _ | assumption) _ | refine Below.alloc ?_ (by first | exact Nat.le_refl _ | assumption) _)))) (first
    | (go_at_call 157;refine (HREM.out _ (by (repeat (first | assumption | exact Below.refl _ _ | refine bel_drew ?_ | refine Below.setCell ?_ (by first | exact Nat.le_refl _ | assumption) _ | refine Below.alloc ?_ (by first | exact Nat.le_refl _ | assumption) _)))).mono ?_;rintro e w3 ⟨u3,L3,rfl,ht3,hp3,hb3⟩;have hb33:Bw w2 w3:=undrew hb3;clear hb3)
    | (go_at_call 154;refine (HADD.out _ _ L3 _ ht3 hp3).mono ?_;rintro e w4 ⟨u4,L4,rfl,ht4,hp4,hb4⟩;have hb44:Bw w2 w4:=hb33.trans (hb4.mono hb33.size)))
   all_goals
    have HB4:=qJ HB2 hb44;have hw3:w.heap.size<=w3.heap.size:=Nat.le_trans HB2.out.size hb33.size;have HT4:Hid (TabAt (fun b=>w.heap.size<=b) w4 u4 L4):=⟨ht4.1.imp fun _ h _=>Nat.le_trans hw3 h,fun y hy=>(ht4.2 y hy).imp fun _ h _=>Nat.le_trans hw3 h⟩;have HP4:Hid _:=hp4;clear ht4 hp4 hb4 ht3 hp3;go_wp2
    (try simp only [Exit.inBlock,Exit.then])
    refine bodyPost_ret (v:=.tuple #[u4,.int .i64 ae]) (by simp [results,Tryz.results108,go_sem]) rfl ?_
    first
     | exact ⟨u4,rfl,L4,HT4.out,HP4.out,HB4.out⟩
     | exact ⟨u4,L4,rfl,HT4.out,HP4.out,HB4.out⟩
  ·have hE:Sp.rnE C I (pl L) kc b s c d s2 st = mv:=by unfold Sp.rnE;rw [hte,if_pos rfl,hq,hmv,if_neg hm0]
   have hT:Sp.rnT C I (pl L) kc b s c d s2 st = []:=by unfold Sp.rnT;rw [if_neg (by rw [hE];exact hm0)]
   rw [hE,hT];have hz':(mv != 0) = true:=by simpa using hm0
   clear hc0 hxc hgc hkc hfc hff hpl hj hqe hkt hkt0 hxt hgt hkt2 hlk hft hit hic hr hst hlen hq1 hyc hst0 hmv hm0 hE hT hM hte hq;go_enter Tryz.func108,Tryz.ntmps108;obtain ⟨⟨a0,a1⟩,_⟩:=two_of HA0.out.1;go_wp2_with fail;rw [← hW];refine (toChange_any HCC.out.1 _ L kc b s st _ HV.out HOK.out HSM.out.1).mono ?_;rintro e w1 ⟨rfl,hb1⟩;rw [HTE.out.1,HTE.out.2];have HB1:=qJ HB0 hb1;have HA1:Hid (w1.heap[w.heap.size]? = some (BH kc b)/\w1.heap[w.heap.size + 1]? = some (BH c d)):=⟨(hb1.block _ (by omega)).trans HA0.out.1,(hb1.block _ hws).trans HA0.out.2⟩;have hw11:w.heap.size + 1 < w1.heap.size:=(qL HA1.out.2);have hw10:w.heap.size < w1.heap.size:=by omega
   clear hb1 hW a0 a1;obtain ⟨W1,hW1⟩:=qF (w1.alloc (BH q1 q2));have bb1:Bw w1 W1:=by rw [hW1];exact qG _ _
   have HBW:=qJ HB1 bb1;have HAW:Hid (W1.heap[w.heap.size]? = some (BH kc b)/\W1.heap[w1.heap.size]? = some (BH q1 q2)/\W1.heap[w.heap.size + 1]? = some (BH c d)):=⟨(bb1.block _ hw10).trans HA1.out.1,by rw [hW1];exact heap_alloc_new _ _,(bb1.block _ hw11).trans HA1.out.2⟩;have hwt1:w1.heap.size < W1.heap.size:=(qL HAW.out.2.1);obtain ⟨⟨g0,g1⟩,_⟩:=two_of HA1.out.2;clear bb1;go_wp2_with fail;rw [← hW1];refine (refuseMove_any HCC.out.2 _ L q1 q2 c d s2 _ (HVW.out _ HBW.out) HOK.out HSM.out.2 HCK.out.1 HCK.out.2).mono ?_;rintro e w2 ⟨rfl,hb2⟩;rw [HMV.out];have HB2:=qJ HBW hb2;have HA2:Hid (w2.heap[w.heap.size]? = some (BH kc b)/\w2.heap[w1.heap.size]? = some (BH q1 q2)/\w2.heap[w.heap.size + 1]? = some (BH c d)):=⟨(hb2.block _ (by omega)).trans HAW.out.1,(hb2.block _ hwt1).trans HAW.out.2.1,(hb2.block _ (by omega)).trans HAW.out.2.2⟩;clear hb2 hW1 g0 g1;go_wp2
   (try simp only [Exit.inBlock,Exit.then])
   refine bodyPost_ret (v:=.tuple #[.slice none 0 0,.int .i64 mv]) (by simp [results,Tryz.results108,go_sem]) rfl ?_;have hbe:=HB2.out;have hbs:=hbe.size
   first
    | exact ⟨_,rfl,[],tab_nil _ _,rfl,by repeat (first | exact hbe | refine Below.setCell ?_ (by simp) _ | refine Below.alloc ?_ (by first | omega | (simp;omega)) _)⟩
    | exact ⟨_,[],rfl,tab_nil _ _,rfl,by repeat (first | exact hbe | refine Below.setCell ?_ (by simp) _ | refine Below.alloc ?_ (by first | omega | (simp;omega)) _)⟩
 ·have hE:Sp.rnE C I (pl L) a b s c d s2 st = te:=by unfold Sp.rnE;rw [if_neg (by rw [hte];exact hz),hte]
  have hT:Sp.rnT C I (pl L) a b s c d s2 st = []:=by unfold Sp.rnT;rw [if_neg (by rw [hE];exact hz)]
  rw [hE,hT];have hz':(te != 0) = true:=by simpa using hz
  clear hz hE hT hte hM hq;go_enter Tryz.func108,Tryz.ntmps108;obtain ⟨⟨a0,a1⟩,_⟩:=two_of HA0.out.1;go_wp2_with fail;rw [← hW];refine (toChange_any HCC.out.1 _ L a b s st _ HV.out HOK.out HSM.out.1).mono ?_;rintro e w1 ⟨rfl,hb1⟩;rw [HTE.out.1,HTE.out.2];have HB1:=qJ HB0 hb1;have HA1:Hid (w1.heap[w.heap.size]? = some (BH a b)/\w1.heap[w.heap.size + 1]? = some (BH c d)):=⟨(hb1.block _ (by omega)).trans HA0.out.1,(hb1.block _ hws).trans HA0.out.2⟩;have hw11:w.heap.size + 1 < w1.heap.size:=(qL HA1.out.2);have hw10:w.heap.size < w1.heap.size:=by omega
  clear hb1 hW a0 a1;go_wp2
  (try simp only [Exit.inBlock,Exit.then])
  refine bodyPost_ret (v:=.tuple #[.slice none 0 0,.int .i64 te]) (by simp [results,Tryz.results108,go_sem]) rfl ?_;have hbe:=HB1.out;have hbs:=hbe.size
  first
   | exact ⟨_,rfl,[],tab_nil _ _,rfl,by repeat (first | exact hbe | refine Below.setCell ?_ (by simp) _ | refine Below.alloc ?_ (by first | omega | (simp;omega)) _)⟩
   | exact ⟨_,[],rfl,tab_nil _ _,rfl,by repeat (first | exact hbe | refine Below.setCell ?_ (by simp) _ | refine Below.alloc ?_ (by first | omega | (simp;omega)) _)⟩
end
section
open Go.ChangeShapes Go.WideShapes Go.ChangeAt Go.RowKit Go.Deep
theorem runs_same (u v:Value) (l:List Bl.R) (w:World) (hu:FieldsAt w.heap.size w u l) (hv:FieldsAt w.heap.size w v l) :
    Calls Tryz.prog 90 #[u,v] w fun e w'=>e = .returned (.bool true)/\Bw w w':=by
  obtain ⟨ao,cap,rfl,hm,hx⟩:=hu.open;obtain ⟨bo,cap',rfl,_,hy⟩:=hv.open;clear hu hv;unfold maxLen at hm;obtain ⟨n,hn⟩:=qE l.length;rw [hn] at hm hx hy ⊢;have HX:Hid (∀ j,j < n->∃ b off,ao = some ⟨b,off,none⟩/\b < w.heap.size/\w.cell? ⟨b,off + j * 2,none⟩ = some (.int .i64 (l.getD j (0,.empty)).1)/\w.cell? ⟨b,off + j * 2 + 1,none⟩ = some (.string (l.getD j (0,.empty)).2)):=hx;have HY:Hid (∀ j,j < n->∃ b off,bo = some ⟨b,off,none⟩/\b < w.heap.size/\w.cell? ⟨b,off + j * 2,none⟩ = some (.int .i64 (l.getD j (0,.empty)).1)/\w.cell? ⟨b,off + j * 2 + 1,none⟩ = some (.string (l.getD j (0,.empty)).2)):=hy;clear hn hx hy;go_enter Tryz.func90,Tryz.ntmps90;go_wp2;go_loopw [8] (fun i wr=>∃ k:Nat,k<=n/\i = .int .i64 k/\Bw w wr) (fun i _=>n - (intOf i).toNat)
  case atStart=>exact ⟨0,Nat.zero_le _,rfl,Below.refl _ _⟩
  case round =>
    obtain ⟨k,hk,rfl,hbl⟩:=hrel
    by_cases hlt:k < n
    · obtain ⟨b, off, rfl, hB, c0, c1⟩ := HX.out k hlt
      obtain ⟨b',off',rfl,hB',d0,d1⟩:=HY.out k hlt;rw [← hbl.cell (p:=⟨b,off + k * 2,none⟩) hB] at c0;rw [← hbl.cell (p:=⟨b,off + k * 2 + 1,none⟩) hB] at c1;rw [← hbl.cell (p:=⟨b',off' + k * 2,none⟩) hB'] at d0;rw [← hbl.cell (p:=⟨b',off' + k * 2 + 1,none⟩) hB'] at d1;generalize l.getD k (0,.empty) = f at c0 c1 d0 d1;obtain ⟨t,s⟩:=f;have hlt':(k:Int) < (n:Int):=by omega
      have hge:decide ((n:Int)<=(k:Int)) = false:=by simp;omega
      have hge2:decide (n<=k) = false:=by simp;omega
      go_wp2
      go_quiet (fail)
      go_wp2
      go_roundw
      case rel=>exact ⟨k + 1,by omega,by go_num,Go.below_drewN hbl _⟩
      case measure=>simp [intOf];omega
    · obtain rfl : k = n := by omega
      go_wp2;go_ret;exact ⟨by simp,hbl⟩
end
section
open Go.ChangeShapes Go.WideShapes Go.ChangeAt Go.RowKit Go.Deep It
def Sp.chk (R:List Ino->Bool) (L:List Ino):Int:=if R L = true then 0 else 4
end
end Go.Proofs.YtneojimodomohaaGreat
