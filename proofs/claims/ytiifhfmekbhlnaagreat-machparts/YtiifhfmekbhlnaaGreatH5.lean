/- Part 5. -/
import Derived.Maps.Own
import Derived.Maps.RangeWalk
import Derived.Lib.AppendZeros
import Derived.Test.YtiifhfmekbhlnaaGreatH4
set_option maxHeartbeats 8000000
set_option maxRecDepth 100000
namespace Go.Proofs.YtiifhfmekbhlnaaGreat
section
open ChangeShapes WideShapes ChangeAt RowKit Deep It
theorem At.map {α:Type}{E:fY α}{S:Nat->Prop}{w w':World}{v:Value}{l:List α}{r:Nat}{es:Array MapEntry}{clock:Nat}(hsz:0<E.sz)(h:At E S w v l)(hr:w.1[r]?=some (.map es clock))(hg:w.grownBy w' (some r)):At E S w' v l:=by
 rcases h with h | ⟨b,c,d,rfl,m,f,g,n,o,i⟩
 ·exact .inl h
 ·have a:b≠r:=by
   rintro rfl;have k:0<(E.flat l).length:=by rw[E.eh];exact Nat.mul_pos g hsz
   have:=i 0 _ (MF k);unfold World.cell? at this;simp only[hr]at this
   cases this
  exact .inr ⟨b,c,d,rfl,m,M6 f hg.size,g,n,o,λj u p=>(dJ (hg.block b f (λe=>a (by cases e;rfl)))).trans (i j u p)⟩
theorem HM.kept {w w':World}{r:Nat}{M:List ((Int × Int) × Int)}(h:HM w r M)(hk:w'.1[r]?=w.1[r]?):HM w' r M:=by
 obtain⟨b,a,c,d⟩:=h.out;exact⟨b,a,hk.trans c,d⟩
theorem HM.lt {w:World}{r:Nat}{M:List ((Int × Int) × Int)}(h:HM w r M):r<w.1.size:=by
 obtain⟨c,a,b,_⟩:=h.out;exact (qL b)
theorem HM.new (w:World):HM (w.alloc (.map #[] 0)) w.heap.size []:=⟨#[],0,World.alloc_heap_new w _,rfl,qs,λb a=>by simp at a⟩
section
variable {ops:Array Oper} {rest:List Oper} {o:Oper} {a:Act} {Q:Exit->Act->World->Prop}
theorem B7 (w)(hg:o.guard=none)(m x v:Operand)(hop:o.op=Op.mapUpdate 157 m x v)(r)(M:List ((Int × Int) × Int))(h:Int × Int)(u)(hm:a.eval m=.map (some r))(hx:a.eval x=ll h)(hv:a.eval v=.int .i64 u)(hM:HM w r M)(hK:∀ w',HM w' r (km M h u)->w.grownBy w' (some r)->wpList Tryz.prog ops Q rest (a.put o.dst undef) w'):wpList Tryz.prog ops Q (o::rest) a w:=by
 refine OF hg λg c=>?_
 obtain⟨w',b,d,f⟩:=u9 hM h u;unfold Oper.wp;simp[execOp,hop,hm,hx,hv,b,Result.andThen];exact c _ _ (hK w' d f)
theorem BP (w)(hg:o.guard=none)(m:Operand)(hop:o.op=Op.range 157 m)(r)(M:List ((Int × Int) × Int))(hm:a.eval m=.map (some r))(hM:HM w r M)(hK:∀ es w',HR w' r w.1.size M es #[]->w.grownBy w' none->wpList Tryz.prog ops Q rest (a.put o.dst (.pointer (some ⟨w.1.size,0,none⟩))) w'):wpList Tryz.prog ops Q (o::rest) a w:=by
 refine OF hg λg d=>?_
 obtain⟨es,c,b,f⟩:=E0 hM;unfold Oper.wp;simp[execOp,hop,hm,b,Result.andThen];exact d _ _ (hK es _ f (MU _ _ none))
theorem Cd (w)(hg:o.guard=none)(it:Operand)(hop:o.op=Op.next it false)(r t)(M:List ((Int × Int) × Int))(es:Array MapEntry)(seen:Array Nat)(hit:a.eval it=.pointer (some ⟨t,0,none⟩))(h:HR w r t M es seen)(hDone:mo es seen=[]->wpList Tryz.prog ops Q rest (a.put o.dst (.tuple #[.bool false])) w)(hMore:∀ e p w',e∈mo es seen->p∈M->e.val=.int .i64 p.2->HR w' r t M es (seen.push e.born)->w.grownBy w' (some t)->(Instr.entry (.pointer (some ⟨t,0,none⟩))).run Tryz.prog w'=.ok (.tuple #[ll p.1,.int .i64 p.2]) w'->wpList Tryz.prog ops Q rest (a.put o.dst (.tuple #[.bool true,ll p.1,.int .i64 p.2])) w'):wpList Tryz.prog ops Q (o::rest) a w:=by
 refine OF hg λn c=>?_
 unfold Oper.wp;rcases Gg h o.type with⟨g,b⟩ | ⟨e,i,p,j,m,k,w',b,l,d,f⟩
 ·simp[execOp,hop,hit,b,Result.andThen];exact c _ _ (hDone g)
 ·simp[execOp,hop,hit,b,Result.andThen];exact c _ _ (hMore e p w' i j k l d f)
end
theorem nQ {S : Nat → Prop}(v )(L )(w )(hv : cD S w v L)(hright : It.right (pl L)=true) :
  Calls Tryz.prog 63 #[v] w λe w'=>e=.returned (.bool (Sp.oM (pl L)))/\Bw w w':=by
 obtain⟨⟨hL1,hL2⟩,hroot,hall⟩:=It.cG.1 hright;rw[M8]at hL1 hL2;obtain⟨ao,cap,rfl,hm,hx⟩:=hv.open;obtain⟨n,hn⟩:=qE L.length;have HN:=hH hn;have HX:=hH hx;have HV:=hH hv;have HALL:=hH hall;obtain⟨ans,hans⟩:=qE (Sp.oM (pl L));have HANS:=hH hans;rw[hans];obtain⟨W0,hW0⟩:=qF (w.alloc (.map #[] 0));have hg0:w.grownBy W0 none:=by rw[hW0];exact MU _ _ none
 have HB0:=hH<|dR hg0 qn;have HM0:Hid (HM W0 w.1.size []):=by rw[hW0];exact HM.new w
 obtain⟨r,hr⟩:=qE w.1.size;have hmm:=@run_makeMap Tryz.prog;rw[hn]at HV hL1 hL2 |-;clear hv hx hright hroot hall hans hg0 hn hm;go_enter Tryz.func63,Tryz.ntmps63;go_wp2_with fail;rw[<-hW0];refine (uW _ L _ (by have:=HV.out.up HB0;rw[<-HN.out]at this |-;exact this) (by rw[HN.out];omega)).mono ?_;rintro e w1 ⟨u,rfl,hu,hb1⟩;have HB1:=qJ HB0 hb1;have HM1:Hid (HM w1 r []):=by rw[<-hr];exact HM0.kept (hb1.block _ HM0.lt)
 have HU1:=hH hu;obtain⟨ua,uc,rfl,-,-⟩:=hu.open;obtain⟨n1,hn1⟩:=qE ((used (pl L)).length);have HN1:=hH hn1;have hn1b:n1<=24:=by have:=ln (pl L);rw[M8,HN.out]at this;omega
 rw[hn1]at HU1 |-;have HRW:=hH hr;clear hu hb1 hmm hW0 hn1 HM0 HB0 hr;go_wp2;go_loopw [16] (λi wr=>∃ k:Nat,k<=n1/\i=.int .i64 k/\Hid (HM wr r (Sp.gm (pl L) k))/\Hid (Sp.Small (Sp.gm (pl L) k))/\Hid (ey EH wr (.slice ua n1 uc) (used (pl L)))/\Hid (Bw w wr)) (λi _=>n1-(intOf i).toNat)
 case atStart=>exact⟨0,MV _,rfl,HM1,Sp.Small.nil,HU1,HB1⟩
 case round =>
  obtain⟨k,hk,rfl,HMk,HSM,HU,HB⟩:=hrel;have hsz:=HB.out.size
  by_cases hlt:k<n1
  ·obtain⟨h,hhk⟩:∃ h,(used (pl L))[k]?=some h:=⟨_,MF (by rw[HN1.out];exact hlt)⟩;have HHK:=hH hhk;obtain⟨ua',uc',huv,-,huc⟩:=HU.out.open;simp only[Value.slice.injEq]at huv;obtain⟨rfl,-,rfl⟩:=huv;obtain⟨bu,offu,rfl,-,hbu,hcu⟩:=huc k h hhk;have d0:wr.cell? ⟨bu,offu+k*2,none⟩=some (.int .i64 h.1):=hcu 0 _ rfl;have d1:wr.cell? ⟨bu,offu+k*2+1,none⟩=some (.int .i64 h.2):=hcu 1 _ rfl;obtain⟨i,y,hiy,jR,-,-⟩:=dY.1 (kW.1 (MG hhk));have hiL:i<L.length:=by have:=(qM hiy);rwa [M8]at this
   obtain⟨x,hxi⟩:∃ x,L[i]?=some x:=⟨_,MF hiL⟩;have hyx:y=x.i:=by have:=nP hxi;rw[hiy]at this;exact Option.some.inj this
   subst hyx;have hone:=HALL.out x.i (MG hiy);have hlb:0<=x.i.cH/\x.i.cH<=64:=by
    unfold one at hone;simp only[Bool.and_eq_true]at hone;rcases At.cG.1 hone.2.1 with ⟨_,h1,_⟩ | ⟨_,_,⟨_,h1⟩ | ⟨_,h1⟩⟩ <;> omega
   have HLK:Hid (Sp.oO (pl L) h.1=x.i.cH):=by
    show ((pl L)[h.1.toNat]?.getD gU).cH=_;rw[jR,show ((i:Int)).toNat=i by omega,hiy];rfl
   obtain⟨⟨b,off,rfl,hB,hc⟩,-⟩:=HX.out i x hxi;obtain⟨c0,c1,c2,c3,c4,c5,c6,c7⟩:=hc.below HB.out hB;have hlt':(k:Int)<(n1:Int):=by omega
   obtain⟨hno1,hge⟩:=h;simp only at jR;subst jR;have hin:(i:Int)<(n:Int):=by rw[<-HN.out];omega
   have hbw:b<wr.1.size:=by omega
   have HMA:Hid (HM (wr.alloc (BH (i:Int) hge)) r (Sp.gm (pl L) k)):=HMk.out.kept (ML _ _ _ HMk.out.lt);obtain⟨⟨z0,z1⟩,-⟩:=cU (MD wr (BH (i:Int) hge));have e2:(wr.alloc (BH (i:Int) hge)).cell? ⟨b,off+i*8+2,none⟩=some (.int .i64 x.i.cH):=(dh hbw _ _).trans c2;have HS0:Hid ((λV:World=>HM V r (Sp.gm (pl L) k)/\V.cell? ⟨wr.1.size,0,none⟩=some (.int .i64 (i:Int))/\V.cell? ⟨wr.1.size,1,none⟩=some (.int .i64 hge)/\V.cell? ⟨b,off+i*8+2,none⟩=some (.int .i64 x.i.cH)) (wr.alloc (BH (i:Int) hge)).drew):=⟨HMA.out.kept rfl,z0,z1,e2⟩;have HST:Hid (Sp.gm (pl L) (k+1)=km (Sp.gm (pl L) k) ((i:Int),hge) x.i.cH):=by
    show Sp.gm (pl L) (k+1)=_;rw[Sp.zN HHK.out,HLK.out]
   have HSM2:Hid (Sp.Small (Sp.gm (pl L) (k+1))):=by rw[HST.out];exact HSM.out.set _ hlb.1 hlb.2
   clear hcu hhk hiy hxi hc hiL hone c0 c1 c3 c4 c5 c6 c7 hlb;go_wp2_with fail;refine Late.start (λV=>HM V r (Sp.gm (pl L) k)/\V.cell? ⟨wr.1.size,0,none⟩=some (.int .i64 (i:Int))/\V.cell? ⟨wr.1.size,1,none⟩=some (.int .i64 hge)/\V.cell? ⟨b,off+i*8+2,none⟩=some (.int .i64 x.i.cH)) 9 qk ?_;refine Late.take 0 (.map (some r)) rfl qk qk qk qk rfl (λV hV=>by obtain⟨hV1,hV2,hV3,hV4⟩:=hV;go_simp) HS0 ?_;refine Late.take 1 (ll ((i:Int),hge)) rfl qk qk qk qk rfl (λV hV=>by obtain⟨hV1,hV2,hV3,hV4⟩:=hV;go_simp) HS0 ?_;refine Late.take 2 (.slice (some ⟨b,off,none⟩) n cap) rfl qk qk qk qk rfl (λV hV=>by obtain⟨hV1,hV2,hV3,hV4⟩:=hV;go_simp) HS0 ?_;refine Late.take 3 (.pointer (some ⟨wr.1.size,0,none⟩)) rfl qk qk qk qk rfl (λV hV=>by obtain⟨hV1,hV2,hV3,hV4⟩:=hV;go_simp) HS0 ?_;refine Late.take 4 (.int .i64 (i:Int)) rfl qk qk qk qk rfl (λV hV=>by obtain⟨hV1,hV2,hV3,hV4⟩:=hV;go_simp) HS0 ?_;refine Late.take 5 (.pointer (some ⟨b,off+i*8,none⟩)) rfl qk qk qk qk rfl (λV hV=>by obtain⟨hV1,hV2,hV3,hV4⟩:=hV;go_simp) HS0.out ?_;refine Late.take 6 (.pointer (some ⟨b,off+i*8+1,none⟩)) rfl (by kernel_rfl) (by kernel_rfl) (by kernel_rfl) (by kernel_rfl) rfl (λV hV=>by obtain⟨hV1,hV2,hV3,hV4⟩:=hV;go_simp) HS0.out ?_;refine Late.take 7 (.pointer (some ⟨b,off+i*8+2,none⟩)) rfl (by kernel_rfl) (by kernel_rfl) (by kernel_rfl) (by kernel_rfl) rfl (λV hV=>by obtain⟨hV1,hV2,hV3,hV4⟩:=hV;go_simp) HS0.out ?_;refine Late.take 8 (.int .i64 x.i.cH) rfl (by kernel_rfl) (by kernel_rfl) (by kernel_rfl) (by kernel_rfl) rfl (λV hV=>by obtain⟨hV1,hV2,hV3,hV4⟩:=hV;go_simp) HS0.out ?_
   generalize haa:Act.put _ _ _=aa;refine Late.one 9 rfl (by kernel_rfl) rfl ?_;have HMD:Hid (HM (wr.alloc (BH (i:Int) hge)).drew r (Sp.gm (pl L) k)):=HMA.out.kept rfl;obtain⟨w2,hrun,hm2,hg2⟩:=u9 HMD.out ((i:Int),hge) x.i.cH;have HM2:Hid (HM w2 r (Sp.gm (pl L) (k+1))):=by rw[HST.out];exact hm2
   have hgd:wr.grownBy (wr.alloc (BH (i:Int) hge)).drew none:=⟨rfl,rfl,rfl,by simp,λk hk _=>ML wr _ k hk⟩;have HU2:Hid (ey EH w2 (.slice (some ⟨bu,offu,none⟩) n1 uc) (used (pl L))):=by
    obtain⟨es,clock,he,_⟩:=HMD.out.out;exact (HU.out.up (dR hgd (MI _))).map (by decide) he hg2
   have HB2:Hid (Bw w w2):=(HB.out.trans ((dR hgd (MI _)).mono hsz)).grown hg2 (MS hsz hgd.size) (λk e=>by cases e;rw[<-HRW.out];exact MI _);have ea:aa.eval (.tmp 20)=.map (some r)/\aa.eval (.tmp 21)=ll ((i:Int),hge)/\aa.eval (.tmp 28)=.int .i64 x.i.cH:=by
    rw[<-haa];simp[Act.eval,Act.put]
   simp only[List.getElem_toArray,List.getElem_cons_succ,List.getElem_cons_zero];unfold Oper.wp;clear hm2 hg2 hgd;simp only[execOp,ea.1,ea.2.1,ea.2.2,hrun,Sem.run_bind,Sem.run_pure,Result.andThen];refine⟨λh=>absurd rfl h,?_⟩;refine Late.done (by kernel_rfl) ?_;clear ea;subst haa;simp only[Exit.inBlock,Exit.then,Act.put,List.setIfInBounds_toArray];clear hrun z0 z1 e2;go_wp2
   go_roundw
   case rel=>exact⟨k+1,by omega,by go_num,HM2.out,HSM2.out,HU2.out,HB2.out⟩
   case measure=>simp[intOf];omega
  ·obtain rfl : n1=k := by omega
   obtain⟨x0,hx0⟩:∃ x,L[0]?=some x:=⟨_,MF (by rw[HN.out];omega)⟩;obtain⟨⟨b,off,rfl,hB,hc⟩,-⟩:=HX.out 0 x0 hx0;obtain⟨c0,-⟩:=hc.below HB.out hB;rw[Nat.zero_mul,OJ]at c0;have HG0:Hid (Sp.rV (pl L)=x0.i.gen):=by
    show ((pl L)[0]?.getD gU).gen=_;rw[nP hx0];rfl
   have HST:Hid (Sp.start (pl L)=km (Sp.gm (pl L) n1) ((0:Int),x0.i.gen) 0):=by
    show km (Sp.gm (pl L) (used (pl L)).length) (0,Sp.rV (pl L)) 0=_;rw[HN1.out,HG0.out]
   have HSM2:Hid (Sp.Small (Sp.start (pl L))):=by rw[HST.out];exact HSM.out.set _ (by decide) (by decide)
   have hn0:(0:Int)<(n:Int):=by omega
   clear hc hx0
   go_wp2_with (at_mapUpdate;refine B7 _ rfl _ _ _ rfl r (Sp.gm (pl L) n1) ((0:Int),x0.i.gen) 0 rfl rfl rfl HMk.out ?_;intro w2 hm2 hg2;have HM2:Hid (HM w2 r (Sp.start (pl L))):=(by rw[HST.out];exact hm2);have HB2:Hid (Bw w w2):=HB.out.grown hg2 hsz (λk e=>by cases e;rw[<-HRW.out];exact MI _);clear hm2 hg2)
   clear HU HB HMk c0 hsz hB;go_loopw [38] (λi wr=>∃ (k:Nat) (M:List ((Int × Int) × Int)),k<=n/\i=.int .i64 k/\Hid (HM wr r M)/\Hid (Sp.Small M)/\Hid (Sp.vl (Sp.start (pl L)) (Sp.dk ((pl L).take k))=some M)/\Hid (Bw w wr)) (λi _=>n-(intOf i).toNat)
   case atStart=>exact⟨0,Sp.start (pl L),MV _,rfl,HM2.out,HSM2.out,rfl,HB2.out⟩
   case round =>
    obtain⟨k,M,hk,rfl,HMM,HSS,HEAT,HB⟩:=hrel;have hsz:=HB.out.size
    by_cases hlt:k<n
    ·obtain⟨x,hxk⟩:∃ x,L[k]?=some x:=⟨_,MF (by rw[HN.out];exact hlt)⟩;have hkL:k<(pl L).length:=by rw[M8,HN.out];exact hlt
     obtain⟨⟨b',off',hbo,hB,hc⟩,hgood⟩:=HX.out k x hxk;simp only[Option.some.injEq,Addr.mk.injEq,and_true]at hbo;obtain⟨rfl,rfl⟩:=hbo;obtain⟨c0,c1,c2,c3,c4,c5,c6,c7⟩:=hc.below HB.out hB;have HEA:Hid (Sp.dy (pl L) k=x.i.cE):=(xI hxk).1;obtain⟨eo,ecap,hev,hem,hents⟩:=hgood.2.1.open;simp only[Value.slice.injEq]at hev;obtain⟨rfl,hen,rfl⟩:=hev;obtain⟨m,hm⟩:=qE x.en;have HM':Hid (x.i.cE.length=m):=hen.symm.trans hm;have hmm:m<=9223372036854775807:=by rw[<-hm,hen];unfold maxLen at hem;omega
     have HENT:Hid (∀ j e,x.i.cE[j]?=some e->∃ b2 off2,x.ep=some ⟨b2,off2,none⟩/\b2<w.1.size/\Ba w b2 (off2+j*4) e):=λj e he=>by
      obtain⟨b2,off2,h1,-,h3,hc⟩:=hents j e he;exact⟨b2,off2,h1,h3,hc 0 _ rfl,hc 1 _ rfl,hc 2 _ rfl,hc 3 _ rfl⟩
     obtain⟨ep,hep⟩:=qE x.ep;have HEP:Hid (x.ep=ep):=hep;have hlt':(k:Int)<(n:Int):=by omega
     have HSE:Hid (Sp.kr (pl L) k m=Sp.dk ((pl L).take (k+1))):=Sp.EY hkL (by rw[HEA.out];exact HM'.out);obtain⟨⟨q0,q1,q2,q3,q4,q5,q6,q7⟩,-⟩:=dV (MD wr (jC x));rw[hep,hm]at q6;have HMA:Hid (HM (wr.alloc (B8 x.i.gen x.i.kind x.i.cH x.i.size x.i.cF (.slice x.rp x.rn x.rc) (.slice ep m x.ec) x.i.next)) r M):=HMM.out.kept (ML _ _ _ HMM.out.lt);have HBA:Hid (Bw w (wr.alloc (B8 x.i.gen x.i.kind x.i.cH x.i.size x.i.cF (.slice x.rp x.rn x.rc) (.slice ep m x.ec) x.i.next))):=HB.out.alloc hsz _;have HE0:Hid (Sp.vl (Sp.start (pl L)) (Sp.kr (pl L) k 0)=some M):=by rw[Sp.Bc];exact HEAT.out
     clear hc hgood hents hem hxk hen q0 q1 q2 q3 q4 q5 q7;go_wp2;go_loopw [45] (λi wr=>∃ (j:Nat) (M:List ((Int × Int) × Int)),j<=m/\i=.int .i64 j/\Hid (HM wr r M)/\Hid (Sp.Small M)/\Hid (Sp.vl (Sp.start (pl L)) (Sp.kr (pl L) k j)=some M)/\Hid (Bw w wr)) (λi _=>m-(intOf i).toNat)
     case atStart=>exact⟨0,M,MV _,rfl,HMA.out,HSS.out,HE0.out,HBA.out⟩
     case round =>
      clear HMA HBA HE0 HMM HSS HEAT HB hsz c0 c1 c2 c3 c4 c5 c6 c7 q6;obtain⟨j,M,hj,rfl,HMM,HSS,HEAT,HB⟩:=hrel;have hsz:=HB.out.size
      by_cases hlj:j<m
      ·obtain⟨e,hej⟩:∃ e,x.i.cE[j]?=some e:=⟨_,MF (by rw[HM'.out];exact hlj)⟩;have HEJ:Hid ((Sp.dy (pl L) k)[j]?=some e):=by rw[HEA.out];exact hej
       obtain⟨b2,off2,hep2,hl2,h4⟩:=HENT.out j e hej;obtain rfl:ep=some ⟨b2,off2,none⟩:=HEP.out.symm.trans hep2;have d0:=(HB.out.cell (p:=⟨b2,off2+j*4,none⟩) hl2).trans h4.1;have d1:=(HB.out.cell (p:=⟨b2,off2+j*4+1,none⟩) hl2).trans h4.2.1;have d2:=(HB.out.cell (p:=⟨b2,off2+j*4+2,none⟩) hl2).trans h4.2.2.1;have d3:=(HB.out.cell (p:=⟨b2,off2+j*4+3,none⟩) hl2).trans h4.2.2.2;have hlj':(j:Int)<(m:Int):=by omega
       obtain⟨⟨g0,g1,g2,g3⟩,-⟩:=lS (MD wr (yO e));have HMA:Hid (HM (wr.alloc (yO e)) r M):=HMM.out.kept (ML _ _ _ HMM.out.lt);have HBA:Hid (Bw w (wr.alloc (yO e))):=HB.out.alloc hsz _;obtain⟨mv,hmv⟩:=qE (iN M e.2.2);have hmvb:=HSS.out.val e.2.2;rw[hmv]at hmvb;have hlk:(Instr.lookup 157 (.map (some r)) (.agg #[.int .i64 e.2.2.1,.int .i64 e.2.2.2]) false).run Tryz.prog (wr.alloc (yO e))=.ok (.int .i64 mv) (wr.alloc (yO e)):=by
        have:=uq HMA.out e.2.2;rw[hmv]at this;exact this
       clear hej h4 hep2
       by_cases hz:mv=0
       ·subst hz;have HA:Hid (ans=false):=HANS.out.symm.trans (Sp.Kj hkL HEJ.out HEAT.out hmv);clear hmv;go_wp2;go_ret;rw[HA.out];exact⟨rfl,HBA.out⟩
       ·have hzb:(mv==0)=false:=MQ.2 hz;obtain⟨fi,hfi⟩:=Sp.Gr (M:=M) (g:=e.2.2) (by rw[hmv];exact hz);rw[hmv]at hfi;have HE2:Hid (Sp.vl (Sp.start (pl L)) (Sp.kr (pl L) k (j+1))=some (km M e.2.2 (mv-1))):=by
         have:=Sp.Jl HEJ.out HEAT.out (by rw[hmv];exact hz);rw[hmv]at this;exact this
        have HS2:Hid (Sp.Small (km M e.2.2 (mv-1))):=HSS.out.set _ (by omega) (by omega);have HMV:Hid (iN M e.2.2=mv):=hmv;have HFI:Hid (jg M e.2.2 0=some (fi,mv)):=hfi;clear hfi hmv hz;go_wp2_with fail;have hwm:IntKind.i64.wrap (mv-1)=mv-1:=IntWalk.i64_in _ (by omega);have HS7:Hid ((λV:World=>HM V r M/\V.1[r]?=(wr.alloc (yO e)).1[r]?/\V.cell? ⟨wr.1.size,2,none⟩=some (.int .i64 e.2.2.1)/\V.cell? ⟨wr.1.size,3,none⟩=some (.int .i64 e.2.2.2)) (wr.alloc (yO e)).drew):=⟨HMA.kept rfl,rfl,g2,g3⟩;clear hlk;have hlk:∀ V,HM V r M->(Instr.lookup 157 (.map (some r)) (.agg #[.int .i64 e.2.2.1,.int .i64 e.2.2.2]) false).run Tryz.prog V=.ok (.int .i64 mv) V:=λV hV=>by
         have:=uq hV e.2.2;rw[HMV.out]at this;exact this
        obtain⟨st,hst1,hst2⟩:=Ea HMA HFI;refine Late.start (λV=>HM V r M/\V.1[r]?=(wr.alloc (yO e)).1[r]?/\V.cell? ⟨wr.1.size,2,none⟩=some (.int .i64 e.2.2.1)/\V.cell? ⟨wr.1.size,3,none⟩=some (.int .i64 e.2.2.2)) 7 qk ?_;refine Late.take 0 (.map (some r)) rfl qk qk qk qk rfl (λV hV=>by obtain⟨hV1,hV2,hV3,hV4⟩:=hV;have hl:=hlk V hV1;go_simp) HS7 ?_;refine Late.take 1 (.pointer (some ⟨wr.1.size,2,none⟩)) rfl qk qk qk qk rfl (λV hV=>by obtain⟨hV1,hV2,hV3,hV4⟩:=hV;have hl:=hlk V hV1;go_simp) HS7 ?_;refine Late.take 2 (ll (e.2.2.1,e.2.2.2)) rfl qk qk qk qk rfl (λV hV=>by obtain⟨hV1,hV2,hV3,hV4⟩:=hV;have hl:=hlk V hV1;go_simp) HS7 ?_;refine Late.take 3 (.int .i64 mv) rfl qk qk qk qk rfl (λV hV=>by obtain⟨hV1,hV2,hV3,hV4⟩:=hV;have hl:=hlk V hV1;go_simp) HS7.out ?_;refine Late.take 4 (.int .i64 (mv-1)) rfl (by kernel_rfl) (by kernel_rfl) (by kernel_rfl) (by kernel_rfl) rfl (λV hV=>by obtain⟨hV1,hV2,hV3,hV4⟩:=hV;have hl:=hlk V hV1;go_simp) HS7 ?_;generalize haa:Act.put _ _ _=aa;refine Late.one 5 rfl qk rfl ?_;have ea:aa.eval (.tmp 54)=.map (some r)/\aa.eval (.tmp 56)=ll e.2.2:=by
         rw[<-haa];simp[Act.eval,Act.put]
        have hrun:=hst1 (wr.alloc (yO e)).drew (HMA.kept rfl) rfl;simp only[List.getElem_toArray,List.getElem_cons_succ,List.getElem_cons_zero];unfold Oper.wp;simp only[execOp,ea.1,ea.2,hrun,Sem.run_bind,Sem.run_pure,Result.andThen];refine⟨λ_=>HS7.out,?_⟩;clear ea hrun;subst haa;refine Late.take 6 (.int .i64 (st:Int)) rfl qk qk qk qk rfl (λV hV=>by go_simp) HS7 ?_;generalize haa:Act.put _ _ _=aa;refine Late.one 7 rfl qk rfl ?_;have ea:aa.eval (.tmp 54)=.map (some r)/\aa.eval (.tmp 60)=.int .i64 (st:Int)/\aa.eval (.tmp 58)=.int .i64 (mv-1):=by
         rw[<-haa];simp[Act.eval,Act.put]
        obtain⟨w4,hrun,hm4,hg4⟩:=hst2 (wr.alloc (yO e)).drew (mv-1) rfl;have HM4:=hH hm4;have hgd:wr.grownBy (wr.alloc (yO e)).drew none:=⟨rfl,rfl,rfl,qs,λk hk _=>ML wr _ k hk⟩;have HB4:=hH<|(HB.trans ((dR hgd qn).mono hsz)).grown hg4 (MS hsz hgd.size) (λk e=>by cases e;rw[<-HRW.out];exact MI _);simp only[List.getElem_toArray,List.getElem_cons_succ,List.getElem_cons_zero];unfold Oper.wp;simp only[execOp,ea.1,ea.2.1,ea.2.2,hrun,Sem.run_bind,Sem.run_pure,Result.andThen];refine⟨λh=>absurd rfl h,?_⟩;refine Late.done qk ?_;clear ea hrun hm4 hg4 hgd hst1 hst2 hlk;subst haa;simp only[Exit.inBlock,Exit.then,Act.put,List.setIfInBounds_toArray];go_wp2
        go_roundw
        case rel=>exact⟨j+1,km M e.2.2 (mv-1),qo,by go_num,HM4,HS2,HE2,HB4⟩
        case measure=>simp[intOf];omega
      ·obtain rfl:m=j:=qo
       have HE2:Hid (Sp.vl (Sp.start (pl L)) (Sp.dk ((pl L).take (k+1)))=some M):=by rw[<-HSE.out];exact HEAT
       go_wp2
       go_roundw
       case rel=>exact⟨k+1,M,qo,by go_num,HMM,HSS,HE2,HB⟩
       case measure=>simp[intOf];omega
    ·obtain rfl:n=k:=qo
     have HFIN:=hH<|(Sp.IQ (by rw[M8];exact HN) HEAT).symm.trans HANS;obtain⟨t,ht⟩:=qE wr.1.size
     go_wp2_with (at_range;refine BP _ rfl _ rfl r M rfl HMM ?_;intro es w3 hr3 hg3)
     have HR3:Hid (HR w3 r t M es #[]):=by rw[<-ht];exact hr3
     have HB3:=hH<|HB.out.trans ((dR hg3 qn).mono hsz);have HTW:Hid (w.1.size<=t):=by rw[<-ht];exact hsz
     clear hr3 hg3 HB HMM;go_frame;rw[ht];clear ht hsz;go_loopw [11] (λ_ wr=>∃ seen,Hid (HR wr r t M es seen)/\Hid (∀ e∈es.toList,seen.contains e.born=true->e.val=.int .i64 0)/\Hid (Bw w wr)) (λ_ wr=>match wr.1[t]? with | some (.mapIter _ _ seen _)=>(mo es seen).length | _=>0)
     case atStart=>exact⟨#[],HR3,λe _ h=>by simp at h,HB3⟩
     case round =>
      obtain⟨seen,HRS,HZ,HB⟩:=hrel
      go_wp2_with (at_next;refine Cd _ rfl _ rfl r t M es seen rfl HRS ?_ ?_)
      ·intro h0;have HA:=hH<|show ans=true by
        rw[<-HFIN.out];refine Ok.2 λp hp=>?_
        have hpm:(ll p.1,Value.int .i64 p.2)∈es.toList.map (λe=>(e.key,e.val)):=by rw[HRS.out.rows];exact NI.2 ⟨p,hp,rfl⟩
        obtain⟨e,he,hev⟩:=NI.1 hpm;simp only[Prod.mk.injEq]at hev;have hse:seen.contains e.born=true:=by
         cases hc:seen.contains e.born with
         | true=>rfl
         | false =>
          have:e∈mo es seen:=NK.2 ⟨he,by rw[hc];rfl⟩;rw[h0]at this
          cases this
        have:=HZ.out e he hse;rw[hev.2]at this;simp only[Value.int.injEq,true_and]at this;simp[this]
       clear h0;go_wp2;go_ret;rw[HA.out];exact⟨rfl,HB⟩
      ·intro e a0 a1 pv w' he hp hv hr' hgr hen;have HRN:=hH hr';have HBN:=hH<|HB.out.grown hgr HB.size (λk e=>by cases e;exact HTW);have HLE:=hH<|A5 he;have HEV:=hH hv;have HEB:=hH<|(NK.1 he).1;have HPM:=hH hp;clear hr' hgr he hv hp
       by_cases hz:pv=0
       ·have hzb:(pv != 0)=false:=by simp[hz]
        have HZ2:Hid (∀ x∈es.toList,(seen.push e.born).contains x.born=true->x.val=.int .i64 0):=λx hx hc=>by
         by_cases hb:x.born=e.born
         ·have hxe:x=e:=by
           obtain⟨i,hi⟩:=M1.1 hx;obtain⟨j,hj⟩:=M1.1 HEB;have h3:(es.toList.map (·.born))[i]?=(es.toList.map (·.born))[j]?:=by rw[Nh,Nh,hi,hj];simp[hb]
           have hij:=(List.getElem?_inj (by rw[M8];exact (qM hi)) HRN.born).1 h3;subst hij;rw[hi]at hj;exact Option.some.inj hj
          rw[hxe,HEV.out,hz]
         ·refine HZ x hx ?_;simp only[Array.contains_push]at hc;simpa [hb]using hc
        clear hz;go_wp2
        go_roundw
        case rel=>exact⟨_,HRN,HZ2,HBN⟩
        case measure =>
         obtain⟨c1,-,ht1,-⟩:=HRN.out.it;obtain⟨c2,-,ht2,-⟩:=HRS.out.it;rw[ht1,ht2];exact HLE
       ·have hzb:(pv != 0)=true:=by simp[hz]
        have HA:=hH<|show ans=false by
         rw[<-HFIN.out];refine List.all_eq_false.2 ⟨_,HPM,?_⟩;simp[hz]
        clear hz;go_wp2;go_ret;rw[HA.out];exact⟨rfl,HBN⟩
end
section
open ChangeShapes WideShapes ChangeAt RowKit Deep Go.Shelf It
attribute [local go_sem] O4
theorem CP {S:Nat->Prop}{w:World}{v:Value}{L:List Rw}(h:cD S w v L):cD (λb=>b<w.1.size) w v L :=
 ⟨h.1.imp λ_ _ a=>a,λx c=>⟨(h.2 x c).1.imp λ_ _ a=>a,(h.2 x c).2.1.imp λ_ _ a=>a,(h.2 x c).2.2⟩⟩
theorem GG {n₀:Nat}{w V:World}{v:Value}{L:List Rw}(h:cD (λb=>b<n₀) w v L)(hg:w.grownBy V none):cD (λb=>b<n₀) V v L :=
 have k:∀ b,b<n₀->b<w.1.size->V.1[b]?=w.1[b]?/\b<n₀:=λb c d=>⟨hg.block b d qs,c⟩
 ⟨h.1.gJ hg.size k,λx a=>⟨(h.2 x a).1.gJ hg.size k,(h.2 x a).2.1.gJ hg.size k,(h.2 x a).2.2⟩⟩
abbrev tZ (V:World) (v:Value) (no:Int) (path:ByteArray):World:=((V.alloc (.cells #[v] 25)).alloc (.cells #[.int .i64 no] 3)).alloc (.cells #[.string path] 9)
theorem sP {L:List Rw}{ao:Option Addr}{cap n₀ Bx f no:Nat}{path:ByteArray}{V2:World}(hdeep:Sp.deep (pl L) f no)(hpath:path.size+33*f<=1000)(hLn:L.length<=1000)(hn0:n₀<=V2.heap.size) (htab:cD (λb=>b<n₀) V2 (.slice ao L.length cap) L) (hb:gz Bx V2) (hsafe:∀ b,b<n₀->¬ iK Bx V2 b) :
  uj Tryz.prog 149 #[PT (V2.heap.size+1),PT (V2.heap.size+1+1),PT V2.heap.size] tj Bx (Sp.walk (pl L) f no path) (tZ V2 (.slice ao L.length cap) no path)/\V2.grownBy (tZ V2 (.slice ao L.length cap) no path) none/\(tZ V2 (.slice ao L.length cap) no path).heap.size=V2.heap.size+3/\Kp Bx V2 (tZ V2 (.slice ao L.length cap) no path)/\gz Bx (tZ V2 (.slice ao L.length cap) no path):=by
 have c:V2.grownBy (tZ V2 (.slice ao L.length cap) no path) none:=cQ (cQ (MU _ _ none) (MU _ _ none)) (MU _ _ none);have a:=Kp.still hb c;have d:(tZ V2 (.slice ao L.length cap) no path).cell? ⟨V2.1.size,0,none⟩=some (.slice ao L.length cap):=by
  refine (dh qt _ 0).trans ((dh qs _ 0).trans ?_);simp only[World.cell?,heap_alloc_new V2 (.cells #[.slice ao L.length cap] 25)];rfl
 have g:(tZ V2 (.slice ao L.length cap) no path).cell? ⟨V2.1.size+1,0,none⟩=some (.int .i64 (no:Int)):=by
  refine (dh qs _ 0).trans ?_;have:=MD (V2.alloc (.cells #[.slice ao L.length cap] 25)) (.cells #[.int .i64 (no:Int)] 3);rw[show (V2.alloc (.cells #[.slice ao L.length cap] 25)).1.size=V2.1.size+1 by simp]at this;simp only[World.cell?,this];rfl
 have i:(tZ V2 (.slice ao L.length cap) no path).cell? ⟨V2.1.size+1+1,0,none⟩=some (.string path):=by
  have:=MD ((V2.alloc (.cells #[.slice ao L.length cap] 25)).alloc (.cells #[.int .i64 (no:Int)] 3)) (.cells #[.string path] 9);rw[show ((V2.alloc (.cells #[.slice ao L.length cap] 25)).alloc (.cells #[.int .i64 (no:Int)] 3)).1.size=V2.1.size+1+1 by simp]at this;simp only[World.cell?,this];rfl
 exact⟨tq L ao cap n₀ Bx f no path _ _ _ _ hdeep hpath hLn (MS hn0 a.size) (GH htab a hsafe) (a.box hb) (λb h=>a.safe (hsafe b h) (M6 h hn0)) ⟨g,i,d⟩ ⟨hb.new c qo,hb.new c qo,hb.new c qn⟩,c,qs,a,a.box hb⟩
theorem sM {n B:Nat}{tmps:Array Value}{R:Ending->World->Prop}{W:World}{v:Value}(hb:Boxed W B 4 v)(h:R (.returned v) W)(ht:tmps.getD 6 undef=PT B:=by rfl):LeavesInM Fence.wide n Tryz.prog Tryz.f210 tmps R [] .returning W:=by
 refine⟨v,?_,h⟩;rw[cN rfl,ht];have a:=hb.cell
 go_simp
theorem A0 {S:Nat->Prop}(v)(L)(no)(to)(w)(hv:cD S w v L)(hd:Sp.deep (pl L) 24 no)(hL:L.length<=1000) :
  Calls Tryz.prog 210 #[v,.int .i64 no,.int .i64 to] w λe w'=>e=.returned (.bool ((Sp.walk (pl L) 24 no ⟨#[]⟩).any λz=>(z.1:Int)==to))/\Bw w w':=by
 obtain⟨ao,R,rfl,-,-⟩:=hv.open;obtain⟨a,j⟩:=qF ((w.alloc (.cells #[.int .i64 to] 3)).alloc (.cells #[.bool false] 4));have O:w.grownBy a none:=by rw[j];exact cQ (MU _ _ none) (MU _ _ none)
 have ai:a.1.size=w.1.size+2:=by rw[j];simp
 have hR:Boxed a (w.1.size+1) 4 (.bool false):=by
  have:=Boxed.new (w.alloc (.cells #[.int .i64 to] 3)) 4 (.bool false);rw[show (w.alloc (.cells #[.int .i64 to] 3)).1.size=w.1.size+1 by simp]at this;rw[j];exact this
 have hT:Boxed a w.1.size 3 (.int .i64 to):=by rw[j];exact (Boxed.new w 3 _).alloc _
 have Y:gz (w.1.size+1) a:=⟨_,hR.cell,λk e=>by cases e⟩;have c:∀ k,k≠w.1.size+1->¬ iK (w.1.size+1) a k:=λk hk h=>by
  rcases h with h | ⟨u,hu,s⟩
  ·exact hk h
  ·rw[hR.cell]at hu
   cases hu
   cases s
 obtain⟨i,l,T,E,F⟩:=sP (n₀:=w.1.size) (Bx:=w.1.size+1) (f:=24) (no:=no) (path:=⟨#[]⟩) (V2:=a) hd qd hL qo (GG (CP hv) O) Y (λb hb=>c b qo);unfold tZ at i l T E F;obtain⟨G,U⟩:=qF (((a.alloc (.cells #[.slice ao L.length R] 25)).alloc (.cells #[.int .i64 (no:Int)] 3)).alloc (.cells #[.string ⟨#[]⟩] 9));rw[<-U]at i l T E F;have J:Hid _:=i;have aj:Hid _:=dR (cQ O l) qn;have ak:Hid _:=hR.kept l qs;have Z:=hH<|hT.kept l (by simp);have al:Hid (¬ iK (w.1.size+1) G w.1.size):=E.safe (c _ (by omega)) (by omega);obtain⟨xs,af⟩:=qE (Sp.walk (pl L) 24 no ⟨#[]⟩);rw[af]at J |-;obtain⟨r,x⟩:=qE (xs.any λz=>(z.1:Int)==to);rw[x];have aa:=hH x;clear x;have C:=hH<|show w.1.size<=G.1.size by omega
 clear hv hd i l E hR hT Y c O af ai T;refine (N8 (n:=9)).1 ?_;refine callsIn_of_wp_marks Tryz.func210 rfl trivial ?_;simp only[Tryz.ntmps210,List.size_toArray,List.length_cons,List.length_nil,Nat.reduceAdd,Nat.reduceSub,Array.replicate_succ,Array.replicate_zero,List.push_toArray,List.append_toArray,List.nil_append,List.cons_append]
 gi_wp2
 rw[<-j];refine⟨trivial,?_⟩;refine CallsIn.mono (N8.2 (nD _ _ _ _ ⟨_,_,_,rfl⟩)) ?_;rintro e' w' ⟨rfl,rfl⟩;rw[<-U];clear U j
 gi_wp2
 refine rJ (gf:=149) (lb:=#[PT (a.1.size+1),PT (a.1.size+1+1),PT a.1.size]) (encs:=tj) (Bx:=w.1.size+1) (xs:=xs) rfl (enters_of Tryz.func149 qk rfl) F J (λ_=>rfl)
  (λm V=>(Boxed V (w.1.size+1) 4 (.bool false)/\Kp (w.1.size+1) G V/\Bw w V)/\∀ z∈m,(z.1:Int)≠to)
  (λm V=>(Boxed V (w.1.size+1) 4 (.bool true)/\Bw w V)/\∃ z∈m,(z.1:Int)=to)
  (λt A B o N X x=>⟨⟨(boxed_own (β:=Unit) _ 4 (λ_=>.bool false)).from _ () A B o N.1.1 X x,Ch (β:=Unit) F qn () A B o N.1.2.1 X x,ownFrom_below (β:=Unit) qn C () A B o N.1.2.2 X x⟩,N.2⟩)
  (λt A B o N X x=>⟨⟨(boxed_own (β:=Unit) _ 4 (λ_=>.bool true)).from _ () A B o N.1.1 X x,ownFrom_below (β:=Unit) qn C () A B o N.1.2 X x⟩,N.2⟩)
  ⟨⟨ak,Kp.refl _ _,aj⟩,λz hz=>(by cases hz)⟩
  (λz=>{ tmps:=#[.slice ao L.length R,.int .i64 (no:Int),.int .i64 to,undef,undef,PT w.1.size,PT (w.1.size+1),.int .i64 (z.1:Int),.slice ao L.length R,.int .i64 (no:Int),.func (.func 149) #[] #[PT (a.1.size+1),PT (a.1.size+1+1),PT a.1.size],.int .i64 (z.1:Int),.string z.2,undef,undef,undef],defers:=[] }) ?assign ?body ?done ?stop
 case assign =>
  intro l' m' z V4 K hK;unfold tj
  gi_wp2
  exact hK
 case body =>
  rintro l' m' m z V4 au aq ⟨⟨H,W,ag⟩,I⟩;have ct:=(W.cell al Z.lt).trans Z.cell;have cr:=H.cell;have fr:=H.frozen;have am:Hid _:=W;have ab:=hH H;have ac:=hH ag;have an:=hH I;clear H W ag I aq
  by_cases s:(z.1:Int)=to
  ·have ap:((z.1:Int)==to)=true:=by simp[s]
   have HE:=hH s;clear s
   gi_wp2
   exact⟨(KeepsOthers.setCell _ _ _).from _,⟨ab.out.set _,ac.setCell (p:=⟨w.1.size+1,0,none⟩) qs _⟩,z,qs,HE⟩
  ·have ap:=MQ.2 s;have HE:Hid _:=s;clear s
   gi_wp2
   exact⟨Kp.refl _ _,⟨ab,am.out,ac.out⟩,λy hy=>by
    rcases Na.1 hy with hy | hy
    ·exact an.out y hy
    ·rw[NG.1 hy];exact HE.out⟩
 case done =>
  rintro D M hD ⟨⟨d,av,q⟩,I⟩ g;have hv:(xs.any λz=>(z.1:Int)==to)=false:=OM.2 λz hz=>by have:=I z hz;simpa using this
  obtain rfl:r=false:=aa.out.symm.trans hv;have cr:=d.cell;have fr:=d.frozen
  gi_wp2
  have ad:=(KeepsOthers.setCell M ⟨w.1.size+1,0,none⟩ (.bool false)).same D _ g rfl;refine⟨by simp,.inl ⟨_,_,rfl,run_takeDeferred ad,?_⟩⟩;have P:Boxed ((M.setCell ⟨w.1.size+1,0,none⟩ (.bool false)).putObj D (.deferred none)) (w.1.size+1) 4 (.bool false):=(d.set _).kept (grownBy_putObj' _ _ _) (by rintro ⟨⟩;rw[show M.1[w.1.size+1]?=_ from d]at g;cases g);have Q:Bw w ((M.setCell ⟨w.1.size+1,0,none⟩ (.bool false)).putObj D (.deferred none)):=(q.setCell (p:=⟨w.1.size+1,0,none⟩) (by simp) _).grown (grownBy_putObj' _ _ _) (by have:=q.size;simpa using this) (λk e=>by cases e;have:=C.out;omega);exact sM P ⟨rfl,Q⟩
 case stop =>
  rintro D m M hD ah ⟨⟨d,q⟩,ar⟩ g;have hv:(xs.any λz=>(z.1:Int)==to)=true:=by
   obtain⟨z,hz,s⟩:=ar;exact List.any_eq_true.2 ⟨z,ah.subset hz,by simp[s]⟩
  obtain rfl:r=true:=aa.out.symm.trans hv
  gi_wp2
  refine⟨by simp,.inl ⟨_,_,rfl,run_takeDeferred g,?_⟩⟩;have P:Boxed (M.putObj D (.deferred none)) (w.1.size+1) 4 (.bool true):=d.kept (grownBy_putObj' _ _ _) (by rintro ⟨⟩;rw[show M.1[w.1.size+1]?=_ from d]at g;cases g);have Q:Bw w (M.putObj D (.deferred none)):=q.grown (grownBy_putObj' _ _ _) q.size (λk e=>by cases e;have:=C.out;omega);exact sM P ⟨rfl,Q⟩
end
end Go.Proofs.YtiifhfmekbhlnaaGreat
namespace Go.Proofs.YtiifhfmekbhlnaaGreat
section
open ChangeShapes WideShapes ChangeAt RowKit Deep Go.Shelf It
attribute [local go_sem] O4
theorem KC {V:World}{Bx:Nat}{t:TypeId}{u u':Value}(h:Boxed V Bx t u)(hu':∀ k,u'.ownBlock≠some k):Kp Bx V (V.setCell ⟨Bx,0,none⟩ u'):=by
 have a:=grownBy_setCell' V Bx u';have c:=(h.set u').cell;refine⟨a.os,a.tape,a.output,a.size,λ_=>⟨u',c,λk e=>absurd e (hu' k)⟩,λk b g=>a.block k b (λe=>g (.inl (by cases e;rfl))),λk _ i=>?_,λk o b j=>(KeepsOthers.setCell V _ _).same k o b j⟩;rcases i with rfl | ⟨v,d,f⟩
 ·exact .inl rfl
 ·rw[c]at d
  cases d
  exact absurd f (hu' k)
theorem sC {S:Nat->Prop}(v:Value)(L:List Rw)(w:World)(hv:cD S w v L)(hd:Sp.deep (pl L) 24 0)(hL:L.length<=24)(hlen:(Sp.walk (pl L) 24 0 ⟨#[]⟩).length<=24) :
  Calls Tryz.prog 64 #[v] w λe w'=>e=.returned (.bool (((Sp.walk (pl L) 24 0 ⟨#[]⟩).length:Int)-((pl L).countP (λx=>x.kind==2):Nat)==0))/\Bw w w':=by
 obtain⟨ao,P,rfl,-,hx⟩:=hv.open;obtain⟨c,l⟩:=qF (w.alloc (.cells #[.int .i64 0] 3));have N:w.grownBy c none:=by rw[l];exact MU _ _ none
 have au:c.1.size=w.1.size+1:=by rw[l];simp
 have hR:Boxed c w.1.size 3 (.int .i64 0):=by rw[l];exact Boxed.new w 3 _
 have aa:gz w.1.size c:=⟨_,hR.cell,λk e=>by cases e⟩;have g:∀ k,k≠w.1.size->¬ iK w.1.size c k:=λk hk h=>by
  rcases h with h | ⟨u,hu,he⟩
  ·exact hk h
  ·rw[hR.cell]at hu
   cases hu
   cases he
 obtain⟨d,m,Q,R,F⟩:=sP (n₀:=w.1.size) (Bx:=w.1.size) (f:=24) (no:=0) (path:=⟨#[]⟩) (V2:=c) hd (by decide) (by omega) (by omega) (GG (CP hv) N) aa (λb hb=>g b (by omega));unfold tZ at d m Q R F;obtain⟨T,G⟩:=qF (((c.alloc (.cells #[.slice ao L.length P] 25)).alloc (.cells #[.int .i64 ((0:Nat):Int)] 3)).alloc (.cells #[.string ⟨#[]⟩] 9));rw[<-G]at d m Q R F;have J:=hH d;have av:=hH<|dR (cQ N m) (MI _);have aw:=hH<|hR.kept m (by simp);have ab:=hH<|show w.1.size<T.1.size by omega
 obtain⟨xs,ak⟩:=qE (Sp.walk (pl L) 24 0 ⟨#[]⟩);rw[ak]at J hlen |-;obtain⟨r,M⟩:=qE ((xs.length:Int)-((pl L).countP (λx=>x.kind==2):Nat)==0);rw[M];have ax:=hH M;have HX:=hH hx;obtain⟨n,hn⟩:=qE L.length;have HN:=hH hn;rw[hn,show ((0:Nat):Int)=0 from rfl]at G;rw[hn]at hL |-;clear hv hd d m R hR aa g N ak au Q M hx hn;refine (N8 (n:=9)).1 ?_;refine callsIn_of_wp_marks Tryz.func64 rfl trivial ?_;simp only[Tryz.ntmps64,List.size_toArray,List.length_cons,List.length_nil,Nat.reduceAdd,Nat.reduceSub,Array.replicate_succ,Array.replicate_zero,List.push_toArray,List.append_toArray,List.nil_append,List.cons_append]
 gi_wp2
 rw[<-l];refine⟨trivial,?_⟩;refine CallsIn.mono (N8.2 (nD _ _ _ _ ⟨_,_,_,rfl⟩)) ?_;rintro e' w' ⟨rfl,rfl⟩;rw[<-G];clear G l
 gi_wp2
 refine rJ (gf:=149) (lb:=#[PT (c.1.size+1),PT (c.1.size+1+1),PT c.1.size]) (encs:=tj) (Bx:=w.1.size) (xs:=xs) rfl (enters_of Tryz.func149 (by kernel_rfl) rfl) F J.out (λ_=>rfl)
  (λa V=>Boxed V w.1.size 3 (.int .i64 (a.length:Int))/\Kp w.1.size T V/\Bw w V) (λ_ _=>False)
  (λt A B I hs hg M=>⟨(boxed_own w.1.size 3 (λt:List (Nat × ByteArray)=>.int .i64 (t.length:Int))).from _ t A B I hs.1 hg M,Ch (β:=Unit) F (MI _) () A B I hs.2.1 hg M,ownFrom_below (β:=Unit) (MI _) (Nat.le_of_lt ab.out) () A B I hs.2.2 hg M⟩)
  (λt A B I hs hg M=>hs)
  ⟨aw.out,Kp.refl _ _,av.out⟩
  (λz=>{ tmps:=#[.slice ao n P,undef,.bool false,PT w.1.size,undef,undef,.slice ao n P,.func (.func 149) #[] #[PT (c.1.size+1),PT (c.1.size+1+1),PT c.1.size],.int .i64 (z.1:Int),.string z.2,undef,undef,undef,undef,undef,undef,undef,undef,undef,undef,undef,undef,undef,undef,undef],defers:=[] }) ?assign ?body ?done ?stop
 case assign =>
  intro l' m' z Z K hK;unfold tj
  gi_wp2
  simp;exact hK
 case body =>
  rintro l' m' a z Z aM al ⟨H,am,an⟩;have ay:a.length<24:=by
   have:=al.length_le;simp only[List.length_append,List.length_cons,List.length_nil]at this;omega
  have cr:=H.cell;have fr:=H.frozen;have ac:=hH H;have az:=hH am;have aA:=hH an;have aB:=hH<|show (a++[z]).length=a.length+1 by simp
  obtain⟨ap,o⟩:=qE a.length;rw[o]at cr ay;have aC:=hH o;clear H am an al o
  gi_wp2
  have ad:Kp w.1.size Z (Z.setCell ⟨w.1.size,0,none⟩ (.int .i64 ((ap:Int)+1))):=KC ac.out (by intro k e;cases e);refine⟨ad,?_,az.out.trans ad,aA.out.setCell (p:=⟨w.1.size,0,none⟩) (MI _) _⟩;rw[aB.out,aC.out];exact ac.out.set _
 case done =>
  rintro D V5 hD ⟨aq,aH,ar⟩ U;have af:Hid (V5.1[D]?=some (.deferred (some []))/\w.1.size<D):=⟨U,M6 ab.out hD⟩;have aD:Hid (Bw w V5):=ar;have aE:Hid (Boxed V5 w.1.size 3 (.int .i64 (xs.length:Int))):=aq;clear aq aH ar U hD
  gi_wp2
  gi_loopw [14] (λi wr=>∃ k:Nat,k<=n/\i=.int .i64 k/\Hid (Boxed wr w.1.size 3 (.int .i64 ((xs.length:Int)-((pl (L.take k)).countP (λx=>x.kind==2):Nat))))/\Hid (Bw w wr)/\Hid (wr.1[D]?=some (.deferred (some [])))) (λi _=>n-(intOf i).toNat)
  case atStart=>exact⟨0,MV _,rfl,(show Boxed V5 w.1.size 3 (.int .i64 ((xs.length:Int)-((pl (L.take 0)).countP (λx=>x.kind==2):Nat))) from by simpa using aE.out),aD.out,af.out.1⟩
  case round =>
   obtain⟨k,hk,rfl,s,HB,W⟩:=hrel;have ag:=HB.out.size;have cr:=s.out.cell;have fr:=s.out.frozen;have aK:=s.out.lt;have aF:=hH<|show (pl (L.take k)).countP (λx=>x.kind==2)<=24 by
    refine MS List.countP_le_length ?_;simp only[List.length_map,List.length_take];omega
   obtain⟨q,hq⟩:∃ q:Int,(xs.length:Int)-((pl (L.take k)).countP (λx=>x.kind==2):Nat)=q:=⟨_,rfl⟩;have aL:-24<=q/\q<=24:=by have:=aF.out;omega
   rw[hq]at cr s;have HQ:=hH hq;clear hq
   by_cases hlt:k<n
   ·obtain⟨x,X⟩:∃ x,L[k]?=some x:=⟨_,MF (by rw[HN.out];exact hlt)⟩;obtain⟨⟨b,Y,rfl,hB,hc⟩,-⟩:=HX.out k x X;obtain⟨c0,c1,c2,c3,c4,c5,c6,c7⟩:=hc.below HB.out hB;have aI:(k:Int)<(n:Int):=by omega
    have ah:=hH<|show (pl (L.take (k+1))).countP (λx=>x.kind==2)=(pl (L.take k)).countP (λx=>x.kind==2)+if x.i.kind==2 then 1 else 0 by
     rw[NF,X];simp[pl,List.countP_append,List.countP_cons]
    obtain⟨V2,y⟩:=qF ((wr.alloc (jC x)).alloc (jC x));have C:wr.grownBy V2 none:=by rw[y];exact cQ (MU _ _ none) (MU _ _ none)
    have E:=hH<|s.out.kept C (by simp);have ai:=hH<|HB.out.trans ((dR C (MI _)).mono ag);have aj:=hH<|(C.block D (qL W.out) (by simp)).trans W.out;clear hc X cr fr C
    by_cases hkd:x.i.kind=2
    ·have j:(x.i.kind==2)=true:=by simp[hkd]
     have O:=hH<|show ((xs.length:Int)-((pl (L.take (k+1))).countP (λx=>x.kind==2):Nat))=q-1 by
      have:=ah.out;rw[j]at this;rw[this,<-HQ.out];simp;omega
     clear hkd;have cr:=E.out.cell;have fr:=E.out.frozen
     gi_wp2
     refine⟨trivial,?_⟩;refine CallsIn.mono (N8.2 (fk x _)) ?_;rintro e' w' ⟨rfl,rfl⟩;rw[<-y,j];clear y
     gi_wp2
     go_roundw
     case rel=>exact⟨k+1,by omega,by go_num,by rw[O.out];exact E.out.set _,ai.out.setCell (p:=⟨w.1.size,0,none⟩) (MI _) _,(KeepsOthers.setCell V2 _ _).same D _ aj.out rfl⟩
     case measure=>simp[intOf];omega
    ·have j:(x.i.kind==2)=false:=MQ.2 hkd;have O:=hH<|show ((xs.length:Int)-((pl (L.take (k+1))).countP (λx=>x.kind==2):Nat))=q by
      have:=ah.out;rw[j]at this;rw[this,<-HQ.out];simp
     clear hkd
     gi_wp2
     refine⟨trivial,?_⟩;refine CallsIn.mono (N8.2 (fk x _)) ?_;rintro e' w' ⟨rfl,rfl⟩;rw[<-y,j];clear y
     gi_wp2
     go_roundw
     case rel=>exact⟨k+1,by omega,by go_num,by rw[O.out];exact E.out,ai.out,aj.out⟩
     case measure=>simp[intOf];omega
   ·obtain rfl:n=k:=by omega
    have aG:=hH<|show (q==0)=r by
     rw[<-HQ.out,MY (by rw[HN.out];exact MI _)];exact ax.out
    gi_wp2
    refine⟨by simp,.inl ⟨_,_,rfl,run_takeDeferred W.out,?_⟩⟩;refine⟨_,results_tmp rfl _ _ _,?_,?_⟩
    ·rw[<-aG.out];rfl
    ·exact HB.out.grown (grownBy_putObj' _ _ _) ag (λk e=>by cases e;have:=af.out.2;omega)
 case stop =>
  rintro D a V5 hD aJ h U;exact h.elim
end
section
open ChangeShapes WideShapes ChangeAt RowKit Deep
namespace Fo
def ri (p:eA->Bool) (l:List eA):Int:=match l.findIdx? p with | some k=>(k:Int) | none=>-1
theorem F7 {p:eA->Bool}{l:List eA}{k:Nat}{x:eA}(h:l[k]?=some x) (hp:p x=true) (hb:∀ j y,j<k->l[j]?=some y->p y=false):ri p l=k:=by
 have a:=(qM h);have:l.findIdx? p=some k:=N4.2 ⟨a,by
  have e:=(MN.1 h).2;rw[e];exact hp,λj b=>by
  rw[hb j l[j] b (MF _)];exact Bool.false_ne_true⟩
 unfold ri;rw[this]
theorem CX {p:eA->Bool}{l:List eA}(hb:∀ j y,j<l.length->l[j]?=some y->p y=false):ri p l = -1:=by
 have:=OI.2 λx b=>by
  obtain⟨j,a⟩:=M1.1 b;exact hb j x (qM a) a
 unfold ri;rw[this]
theorem wZ (p:eA->Bool)(l):(ri p l = -1/\∀ x∈l,p x=false)\/∃ (k:Nat) (x:eA),ri p l=k/\l[k]?=some x/\p x=true/\∀ j y,j<k->l[j]?=some y->p y=false:=by
 unfold ri
 cases h:l.findIdx? p with
 | none=>exact .inl ⟨rfl,OI.1 h⟩
 | some k =>
  obtain⟨a,b,c⟩:=N4.1 h;refine .inr ⟨k,l[k],rfl,MF a,b,λj y d f=>?_⟩;have:=c j d;rw[(MN.1 f).2]at this;simpa using this
def called (s:ByteArray) (x:eA):Bool:=x.1.toList==s.toList
def past (c:Int) (x:eA):Bool:=decide (c<x.2.1)
noncomputable def ask (l:List eA) (next:Int) (s:ByteArray):Int:=if Fo.err l next=0 then Nm.err s else 4
theorem wG {l:List eA}{next:Int}{s:ByteArray}(h:Fo.err l next=4):ask l next s=4:=by unfold ask;rw[ME (by rw[h];decide)]
theorem mh {l:List eA}{next:Int}{s:ByteArray}(h:Fo.err l next=0):ask l next s=Nm.err s:=by unfold ask;rw[MC h]
end Fo
theorem gb (v:Value)(l:List eA)(next:Int)(s:ByteArray)(w:World)(hv:ey EE w v l)(hs:∀ x∈l,x.1.size<=maxLen)(hn:s.size<=maxLen) :
  Calls Tryz.prog 220 #[VD v next,.string s] w λe w'=>e=.returned (.int .i64 (Fo.ask l next s))/\Bw w w':=by
 have a:Hid (Bw w (w.alloc (BD v next))):=qG _ _;have j:Hid _:=hv.up a.out;have k:Hid _:=hs;have n:Hid _:=hn;clear hv hs hn;rcases Fo.og l next with⟨b,i⟩ | ⟨b,i⟩
 ·have f:Hid _:=b;have g:Hid (Fo.ask l next s=Nm.err s):=Fo.mh b;rw[g.out];clear b i;go_enter Tryz.func220,Tryz.ntmps220;go_wp2_with fail;refine (fR v l next _ j k).mono ?_;rintro e m ⟨rfl,c⟩;rw[f.out];have d:Hid _:=a.out.trans (c.mono qs);have h:=d.out.size;clear c;go_wp2_with fail;refine (jl s _ n.out).mono ?_;rintro e o ⟨rfl,c⟩;go_wp2;go_ret;exact⟨rfl,d.out.trans (c.mono h)⟩
 ·have f:Hid _:=b;have g:Hid (Fo.ask l next s=4):=Fo.wG b;rw[g.out];clear b i;go_enter Tryz.func220,Tryz.ntmps220;go_wp2_with fail;refine (fR v l next _ j k).mono ?_;rintro e m ⟨rfl,c⟩;rw[f.out];go_wp2;go_ret;exact⟨rfl,a.trans (c.mono qs)⟩
abbrev VF (f b:Nat):Value:=.func (Fn.func f) #[] #[.pointer (some ⟨b,0,none⟩)]
theorem oF (s)(w):Calls Tryz.prog 221 #[.string s] w λe w'=>∃ b,e=.returned (VF 224 b)/\b<w'.1.size/\w'.cell? ⟨b,0,none⟩=some (.string s)/\Bw w w':=by
 go_enter Tryz.func221,Tryz.ntmps221;go_wp2;go_ret;have a:=MD w (.cells #[.string s] 9);exact⟨_,rfl,qs,by simp only[World.cell?,a];rfl,qG _ _⟩
abbrev VE (x:eA):Value:=.agg #[.string x.1,.int .i64 x.2.1,.int .i64 x.2.2.1,.int .i64 x.2.2.2]
theorem uR (x)(s)(b)(w)(hb:b<w.1.size)(hc:w.cell? ⟨b,0,none⟩=some (.string s)) :
  Calls Tryz.prog 224 #[VE x,.pointer (some ⟨b,0,none⟩)] w λe w'=>e=.returned (.bool (Fo.called s x))/\w'=w.alloc (BE x):=by
 obtain⟨c,d,f,g⟩:=x;have a:=(dh hb (BE (c,d,f,g)) 0).trans hc;go_enter Tryz.func224,Tryz.ntmps224;go_wp2;go_ret;exact⟨rfl,rfl⟩
theorem wc (x)(c)(b)(w)(hb:b<w.1.size)(hc:w.cell? ⟨b,0,none⟩=some (.int .i64 c)) :
  Calls Tryz.prog 190 #[VE x,.pointer (some ⟨b,0,none⟩)] w λe w'=>e=.returned (.bool (Fo.past c x))/\w'=w.alloc (BE x):=by
 obtain⟨d,f,g,h⟩:=x;have a:=(dh hb (BE (d,f,g,h)) 0).trans hc;go_enter Tryz.func190,Tryz.ntmps190;go_wp2;go_ret;exact⟨rfl,rfl⟩
theorem lx (v:Value)(l:List eA)(s:ByteArray)(b:Nat)(w:World)(hv:ey EE w v l)(hb:b<w.1.size)(hc:w.cell? ⟨b,0,none⟩=some (.string s)) :
  Calls Tryz.prog 191 #[v,VF 224 b] w λe w'=>e=.returned (.int .i64 (Fo.ri (Fo.called s) l))/\Bw w w':=by
 obtain⟨S,L,rfl,H,I⟩:=hv.open;clear hv;unfold maxLen at H;obtain⟨n,C⟩:=qE l.length;rw[C]at H |-;have F:Hid _:=C;have J:Hid _:=I;have K:Hid _:=hc;clear C I hc;go_enter Tryz.func191,Tryz.ntmps191;go_wp2;go_loopw [8] (λi wr=>∃ k:Nat,k<=n/\i=.int .i64 k/\Hid (∀ j y,j<k->l[j]?=some y->Fo.called s y=false)/\Hid (Bw w wr)) (λi _=>n-(intOf i).toNat)
 case atStart=>exact⟨0,MV _,rfl,λj y t=>by omega,MJ _ _⟩
 case round =>
  obtain⟨k,T,rfl,D,f⟩:=hrel
  by_cases hlt:k<n
  ·obtain⟨x,d⟩:∃ x,l[k]?=some x:=⟨_,MF (by rw[F.out];exact hlt)⟩;have g:Hid _:=d;obtain⟨o,c,rfl,-,M,q⟩:=J.out k x d;have a:=λj u t=>(f.out.cell (p:=⟨o,c+(k*EE.sz+j),none⟩) M).trans (q j u t)
   have O:wr.cell? ⟨o,c+k*4,none⟩=some (.string x.1):=a 0 _ rfl;have P:wr.cell? ⟨o,c+k*4+1,none⟩=some (.int .i64 x.2.1):=a 1 _ rfl;have Q:wr.cell? ⟨o,c+k*4+2,none⟩=some (.int .i64 x.2.2.1):=a 2 _ rfl;have R:wr.cell? ⟨o,c+k*4+3,none⟩=some (.int .i64 x.2.2.2):=a 3 _ rfl;have h:=f.out.size;have m:Hid _:=(f.out.cell (p:=⟨b,0,none⟩) hb).trans K.out;clear a q d;have G:(k:Int)<(n:Int):=by omega
   cases hp:Fo.called s x with
   | true =>
    have z:Hid _:=hp;have A:Hid _:=Fo.F7 g.out hp D.out;clear hp;go_wp2_with fail;refine (uR x s b _ (by omega) m.out).mono ?_;rintro e N ⟨rfl,rfl⟩;rw[z.out];go_wp2;go_ret;rw[A.out];exact⟨rfl,f.out.alloc h _⟩
   | false =>
    have z:Hid _:=hp;have B:Hid (∀ j y,j<k+1->l[j]?=some y->Fo.called s y=false):=λj y t E=>by
     by_cases e:j=k
     ·subst e;rw[g.out]at E
      cases E
      exact hp
     ·exact D.out j y (by omega) E
    clear hp;go_wp2_with fail;refine (uR x s b _ (by omega) m.out).mono ?_;rintro e N ⟨rfl,rfl⟩;rw[z.out];go_wp2
    go_roundw
    case rel=>exact⟨k+1,by omega,by go_num,B,f.out.alloc h _⟩
    case measure=>simp[intOf];omega
  ·obtain rfl:k=n:=by omega
   have A:Hid _:=Fo.CX λj y t=>D.out j y (by rw[<-F.out];exact t)
   go_wp2;go_ret;rw[A.out];exact⟨rfl,f.out⟩
theorem index_past (v:Value)(l:List eA)(s:Int)(b:Nat)(w:World)(hv:ey EE w v l)(hb:b<w.1.size)(hc:w.cell? ⟨b,0,none⟩=some (.int .i64 s)) :
  Calls Tryz.prog 191 #[v,VF 190 b] w λe w'=>e=.returned (.int .i64 (Fo.ri (Fo.past s) l))/\Bw w w':=by
 obtain⟨S,L,rfl,H,I⟩:=hv.open;clear hv;unfold maxLen at H;obtain⟨n,C⟩:=qE l.length;rw[C]at H |-;have F:Hid _:=C;have J:Hid _:=I;have K:Hid _:=hc;clear C I hc;go_enter Tryz.func191,Tryz.ntmps191;go_wp2;go_loopw [8] (λi wr=>∃ k:Nat,k<=n/\i=.int .i64 k/\Hid (∀ j y,j<k->l[j]?=some y->Fo.past s y=false)/\Hid (Bw w wr)) (λi _=>n-(intOf i).toNat)
 case atStart=>exact⟨0,MV _,rfl,λj y t=>by omega,MJ _ _⟩
 case round =>
  obtain⟨k,T,rfl,D,f⟩:=hrel
  by_cases hlt:k<n
  ·obtain⟨x,d⟩:∃ x,l[k]?=some x:=⟨_,MF (by rw[F.out];exact hlt)⟩;have g:Hid _:=d;obtain⟨o,c,rfl,-,M,q⟩:=J.out k x d;have a:=λj u t=>(f.out.cell (p:=⟨o,c+(k*EE.sz+j),none⟩) M).trans (q j u t)
   have O:wr.cell? ⟨o,c+k*4,none⟩=some (.string x.1):=a 0 _ rfl;have P:wr.cell? ⟨o,c+k*4+1,none⟩=some (.int .i64 x.2.1):=a 1 _ rfl;have Q:wr.cell? ⟨o,c+k*4+2,none⟩=some (.int .i64 x.2.2.1):=a 2 _ rfl;have R:wr.cell? ⟨o,c+k*4+3,none⟩=some (.int .i64 x.2.2.2):=a 3 _ rfl;have h:=f.out.size;have m:Hid _:=(f.out.cell (p:=⟨b,0,none⟩) hb).trans K.out;clear a q d;have G:(k:Int)<(n:Int):=by omega
   cases hp:Fo.past s x with
   | true =>
    have z:Hid _:=hp;have A:Hid _:=Fo.F7 g.out hp D.out;clear hp;go_wp2_with fail;refine (wc x s b _ (by omega) m.out).mono ?_;rintro e N ⟨rfl,rfl⟩;rw[z.out];go_wp2;go_ret;rw[A.out];exact⟨rfl,f.out.alloc h _⟩
   | false =>
    have z:Hid _:=hp;have B:Hid (∀ j y,j<k+1->l[j]?=some y->Fo.past s y=false):=λj y t E=>by
     by_cases e:j=k
     ·subst e;rw[g.out]at E
      cases E
      exact hp
     ·exact D.out j y (by omega) E
    clear hp;go_wp2_with fail;refine (wc x s b _ (by omega) m.out).mono ?_;rintro e N ⟨rfl,rfl⟩;rw[z.out];go_wp2
    go_roundw
    case rel=>exact⟨k+1,by omega,by go_num,B,f.out.alloc h _⟩
    case measure=>simp[intOf];omega
  ·obtain rfl:k=n:=by omega
   have A:Hid _:=Fo.CX λj y t=>D.out j y (by rw[<-F.out];exact t)
   go_wp2;go_ret;rw[A.out];exact⟨rfl,f.out⟩
namespace Fo
theorem ns (l)(next)(s):(ask l next s=0/\fE l next/\Nm.ok s)\/(ask l next s=4/\¬ fE l next)\/(ask l next s=409/\fE l next/\¬ Nm.ok s):=by
 rcases og l next with⟨h,a⟩ | ⟨h,a⟩
 ·rcases Nm.og s with⟨k,b⟩ | ⟨k,b⟩
  ·exact .inl ⟨(mh h).trans k,a,b⟩
  ·exact .inr (.inr ⟨(mh h).trans k,a,b⟩)
 ·exact .inr (.inl ⟨wG h,a⟩)
noncomputable def cM (l:List eA) (next:Int) (s:ByteArray):Int:=if ask l next s=0 then (if ri (called s) l = -1 then 402 else 0) else ask l next s
noncomputable def gy (l:List eA) (next:Int) (s:ByteArray):Int:=if cM l next s=0 then ri (called s) l else 0
theorem lz {l:List eA}{next:Int}{s:ByteArray}{e:Int}(h:ask l next s=e)(he:e≠0):cM l next s=e/\gy l next s=0:=by
 have:cM l next s=e:=by unfold cM;rw[ME (by rw[h];exact he),h]
 exact⟨this,by unfold gy;rw[ME (by rw[this];exact he)]⟩
theorem m8 {l:List eA}{next:Int}{s:ByteArray}(h:ask l next s=0)(ha:ri (called s) l = -1):cM l next s=402/\gy l next s=0:=by
 have:cM l next s=402:=by unfold cM;rw[MC h,MC ha]
 exact⟨this,by unfold gy;rw[ME (by rw[this];decide)]⟩
theorem sQ {l:List eA}{next:Int}{s:ByteArray}{k:Nat}(h:ask l next s=0)(ha:ri (called s) l=k):cM l next s=0/\gy l next s=k:=by
 have:cM l next s=0:=by unfold cM;rw[MC h,ME (by rw[ha];omega)]
 exact⟨this,by unfold gy;rw[MC this,ha]⟩
end Fo
theorem dG {w w':World}{b j:Nat}{v:Value}(h:w.cell? ⟨b,j,none⟩=some v)(hb:Bw w w')(hl:b<w.1.size):w'.cell? ⟨b,j,none⟩=some v:=(hb.cell (p:=⟨b,j,none⟩) hl).trans h
theorem iU {w:World}{b j:Nat}{v:Value}(h:w.cell? ⟨b,j,none⟩=some v):b<w.1.size:=by
 unfold World.cell? at h
 by_cases hb:b<w.1.size
 ·exact hb
 ·rw[NM (by simpa using hb)]at h;simp at h
theorem cC {w w':World}{b j:Nat}{v:Value}(h:w.cell? ⟨b,j,none⟩=some v)(hb:Bw w w'):w'.cell? ⟨b,j,none⟩=some v:=dG h hb (iU h)
theorem jL (w:World)(v:Value)(next:Int):(w.alloc (BD v next)).cell? ⟨w.1.size,0,none⟩=some v/\(w.alloc (BD v next)).cell? ⟨w.heap.size,1,none⟩=some (.int .i64 next):=by
 have a:=MD w (BD v next);constructor <;> simp only[World.cell?,a] <;> rfl
theorem dH {w w':World}(h:Below w.drew.1.size w.drew w'):Bw w w':=⟨h.os,h.tape,h.output,h.size,h.block⟩
theorem fV (v)(l:List eA)(next:Int)(s:ByteArray)(w:World)(hv:ey EE w v l)(hs:∀ x∈l,x.1.size<=maxLen)(hn:s.size<=maxLen) :
  Calls Tryz.prog 213 #[VD v next,.string s] w λe w'=>e=.returned (.tuple #[.int .i64 (Fo.gy l next s),.int .i64 (Fo.cM l next s)])/\Bw w w':=by
 have f:Hid (Bw w (w.alloc (BD v next))):=qG _ _;have A:=hH<|hv.up f;have F:=hH hs;have o:=hH hn;obtain⟨p,E⟩:=jL w v next;clear hv hs hn;rcases Fo.ns l next s with⟨c,-,-⟩ | ⟨c,-⟩ | ⟨c,-,-⟩
 ·have B:=hH c;rcases Fo.wZ (Fo.called s) l with⟨u,-⟩ | ⟨k,x,u,K,-,-⟩
  ·have G:=hH u;obtain⟨y,z⟩:Hid (Fo.cM l next s=402)/\Hid (Fo.gy l next s=0):=Fo.m8 c u;rw[y.out,z.out];clear c u;go_enter Tryz.func213,Tryz.ntmps213;go_wp2_with fail;refine (gb v l next s _ A F o).mono ?_;rintro e C ⟨rfl,d⟩;rw[B.out];have g:=f.out.trans (d.mono qs);have h:=hH g;have q:=hH<|A.out.up d;have i:=dG p d qs;have r:Hid _:=i;clear d g i p E;go_wp2_with fail
   go_region_held3 (λw'=>w'.cell? ⟨w.1.size,0,none⟩=some v) (first | exact r | exact cC qa qa) (first
    | (go_at_call 221;refine (oF s _).mono ?_;rintro e J ⟨H,rfl,j,m,b⟩)
    | (go_at_call 191;refine (lx v l s H _ (q.up (dH b)) j m).mono ?_;rintro e I ⟨rfl,n⟩;rw[G.out]))
   have t:Hid (Bw w I):=by
    have D:=h.out.trans ((dH b).mono h.size);exact D.trans (n.mono D.size)
   clear b n j m;go_wp2
   go_ret2
   exact⟨rfl,t⟩
  ·have G:Hid _:=u;obtain⟨y,z⟩:Hid (Fo.cM l next s=0)/\Hid (Fo.gy l next s=k):=Fo.sQ c u;rw[y.out,z.out];clear c u;go_enter Tryz.func213,Tryz.ntmps213;go_wp2_with fail;refine (gb v l next s _ A F o).mono ?_;rintro e C ⟨rfl,d⟩;rw[B.out];have g:=f.out.trans (d.mono qs);have h:Hid _:=g;have q:=hH<|A.out.up d;have i:=dG p d qs;have r:Hid _:=i;clear d g i p E;go_wp2_with fail
   go_region_held3 (λw'=>w'.cell? ⟨w.1.size,0,none⟩=some v) (first | exact r | exact cC qa qa) (first
    | (go_at_call 221;refine (oF s _).mono ?_;rintro e J ⟨H,rfl,j,m,b⟩)
    | (go_at_call 191;refine (lx v l s H _ (q.up (dH b)) j m).mono ?_;rintro e I ⟨rfl,n⟩;rw[G.out]))
   have t:Hid (Bw w I):=by
    have D:=h.out.trans ((dH b).mono h.size);exact D.trans (n.mono D.size)
   clear b n j m;go_wp2
   go_ret2
   exact⟨rfl,t⟩
 ·have B:Hid _:=c;obtain⟨y,z⟩:Hid (Fo.cM l next s=4)/\Hid (Fo.gy l next s=0):=Fo.lz c qd;rw[y.out,z.out];clear c;go_enter Tryz.func213,Tryz.ntmps213;go_wp2_with fail;refine (gb v l next s _ A F o).mono ?_;rintro e C ⟨rfl,d⟩;rw[B.out];go_wp2
  go_ret2
  exact⟨rfl,f.trans (d.mono qs)⟩
 ·have B:Hid _:=c;obtain⟨y,z⟩:Hid (Fo.cM l next s=409)/\Hid (Fo.gy l next s=0):=Fo.lz c qd;rw[y.out,z.out];clear c;go_enter Tryz.func213,Tryz.ntmps213;go_wp2_with fail;refine (gb v l next s _ A F o).mono ?_;rintro e C ⟨rfl,d⟩;rw[B.out];go_wp2
  go_ret2
  exact⟨rfl,f.trans (d.mono qs)⟩
namespace Fo
def vF:eA:=(⟨#[]⟩,0,0,0)
noncomputable def found (l:List eA) (next:Int) (s:ByteArray):eA:=if cM l next s=0 then l.getD (gy l next s).toNat vF else vF
theorem Ic {l:List eA}{next:Int}{s:ByteArray}{e:Int}(h:cM l next s=e)(he:e≠0):found l next s=vF:=by unfold found;rw[ME (by rw[h];exact he)]
theorem rM {l:List eA}{next:Int}{s:ByteArray}{k:Nat}{x:eA}(h:cM l next s=0)(hp:gy l next s=k)(hx:l[k]?=some x):found l next s=x:=by
 unfold found;rw[MC h,hp,show ((k:Int)).toNat=k from by omega,List.getD,hx];rfl
theorem mx (l)(next)(s):(∃ (k:Nat) (x:eA),cM l next s=0/\gy l next s=k/\l[k]?=some x/\called s x=true/\(∀ j y,j<k->l[j]?=some y->called s y=false)/\fE l next/\Nm.ok s)\/(gy l next s=0/\(cM l next s=4\/cM l next s=409\/cM l next s=402)):=by
 rcases ns l next s with⟨a,c,d⟩ | ⟨a,-⟩ | ⟨a,-,-⟩
 ·rcases wZ (called s) l with⟨b,-⟩ | ⟨k,x,b,f,g,h⟩
  ·have := m8 a b
   exact .inr ⟨this.2,.inr (.inr this.1)⟩
  ·have := sQ a b
   exact .inl ⟨k,x,this.1,this.2,f,g,h,c,d⟩
 ·have := lz a qd
  exact .inr ⟨this.2,.inl this.1⟩
 ·have := lz a qd
  exact .inr ⟨this.2,.inr (.inl this.1)⟩
end Fo
abbrev L6:Obj:=.cells #[.string ⟨#[]⟩,.int .i64 0,.int .i64 0,.int .i64 0] 116
theorem qi {w:World}{A:Nat}{x:eA}(h:w.1[A]?=some (BE x)) :
  (w.cell? ⟨A,0,none⟩=some (.string x.1)/\w.cell? ⟨A,1,none⟩=some (.int .i64 x.2.1)/\w.cell? ⟨A,2,none⟩=some (.int .i64 x.2.2.1)/\w.cell? ⟨A,3,none⟩=some (.int .i64 x.2.2.2))/\∀ j,w.frozen? ⟨A,j,none⟩=false:=by
 refine⟨⟨?_,?_,?_,?_⟩,λj=>?_⟩ <;> simp[World.cell?,World.frozen?,h]
theorem Dw (v:Value)(l:List eA)(next:Int)(s:ByteArray)(w:World)(hv:ey EE w v l)(hs:∀ x∈l,x.1.size<=maxLen)(hn:s.size<=maxLen) :
  Calls Tryz.prog 199 #[VD v next,.string s] w λe w'=>e=.returned (.tuple #[VE (Fo.found l next s),.int .i64 (Fo.cM l next s)])/\Bw w w':=by
 obtain⟨W,d⟩:=qF ((w.alloc (BD v next)).alloc L6);have b:=hH<|show Bw w W by rw[d];exact (qG _ _).alloc (by simp) _
 have y:Hid (W.1[w.1.size+1]?=some L6):=by
  have:=MD (w.alloc (BD v next)) L6;rw[<-d]at this
  rwa [show (w.alloc (BD v next)).1.size=w.1.size+1 by simp]at this
 have S:w.1.size+1<W.1.size:=by rw[d];simp
 obtain⟨D,L⟩:W.cell? ⟨w.1.size,0,none⟩=some v/\W.cell? ⟨w.heap.size,1,none⟩=some (.int .i64 next):=by
  have:=jL w v next;rw[d];exact⟨(dh (by simp) _ _).trans this.1,(dh (by simp) _ _).trans this.2⟩
 have F:Hid (ey EE W v l):=hv.up b.out;have J:=hH hs;have z:=hH hn;obtain⟨ao,X,rfl,M,I⟩:=hv.open;clear hv hs hn;unfold maxLen at M;rcases Fo.mx l next s with⟨k,x,q,r,f,-,-,-,-⟩ | ⟨r,q⟩
 ·have A : Hid (Fo.cM l next s=0) := q
  have G:Hid (Fo.gy l next s=k):=r;have H:=hH<|Fo.rM q r f;have T:=(MN.1 f).1;obtain⟨t,a,rfl,-,Y,N⟩:=I k x f;rw[H.out,A.out];obtain⟨m,C⟩:=qE l.length;rw[C]at M T F d D |-;have U:(k:Int)<(m:Int):=by omega
  have V:=hH N;clear q r I f C N;go_enter Tryz.func199,Tryz.ntmps199;go_wp2_with fail;rw[<-d];refine (fV _ l next s _ F.out J.out z.out).mono ?_;rintro e g ⟨rfl,i⟩;rw[A.out,G.out];have c:Hid (Bw w g):=b.out.trans (i.mono b.out.size);have n:=qK i y;have e0:=dG D i (by omega);have B:=λj u hj=>(c.out.cell (p:=⟨t,a+(k*EE.sz+j),none⟩) Y).trans (V.out j u hj)
  have c0:g.cell? ⟨t,a+k*4,none⟩=some (.string x.1):=B 0 _ rfl;have c1:g.cell? ⟨t,a+k*4+1,none⟩=some (.int .i64 x.2.1):=B 1 _ rfl;have c2:g.cell? ⟨t,a+k*4+2,none⟩=some (.int .i64 x.2.2.1):=B 2 _ rfl;have c3:g.cell? ⟨t,a+k*4+3,none⟩=some (.int .i64 x.2.2.2):=B 3 _ rfl;obtain⟨⟨O,P,Q,R⟩,Z⟩:=qi (x:=Fo.vF) n.out;clear i B d D L;go_wp2
  (try simp only[Exit.inBlock,Exit.then])
  refine MK (v:=.tuple #[VE x,.int .i64 0]) ?_ rfl ⟨rfl,?_⟩
  ·rw[Nn rfl]
   go_simp
  ·repeat (refine MP ?_ (by simp) _)
   exact c.out
 ·have G : Hid (Fo.gy l next s=0) := r
  obtain⟨E,h⟩:=qE (Fo.cM l next s);have A:=hH h;rw[h]at q;have o:E≠0:=by omega
  have H:=hH<|Fo.Ic h o;rw[H.out,A.out];have K:(E==0)=false:=MQ.2 o;clear q r I h o;go_enter Tryz.func199,Tryz.ntmps199;go_wp2_with fail;rw[<-d];refine (fV _ l next s _ F.out J.out z.out).mono ?_;rintro e g ⟨rfl,i⟩;rw[A.out,G.out];have c:=qJ b i;have n:=qK i y;obtain⟨⟨O,P,Q,R⟩,Z⟩:=qi (x:=Fo.vF) n.out;simp only[Fo.vF]at O P Q R;clear i d D L;go_wp2
  refine MK (v:=.tuple #[.agg #[.string ⟨#[]⟩,.int .i64 0,.int .i64 0,.int .i64 0],.int .i64 E]) ?_ rfl ⟨rfl,?_⟩
  ·rw[Nn rfl]
   go_simp
  ·repeat (refine MP ?_ (by simp) _)
   exact c.out
theorem BW:(Tryz.prog.info? 116).map (λi=>(i.zero,i.size,i.bytes))=some (some (.agg #[.string ⟨#[]⟩,.int .i64 0,.int .i64 0,.int .i64 0]),4,40):=qk
theorem kS {P:Program}{w w':World}{ops:Array Oper}{rest:List Oper}{o:Oper}{a:Act}{Q:Exit->Act->World->Prop}(hgd:o.guard=none)(s x:Operand)(t tn:TypeId)(ho:o.op=.call { callee:=.builtin .append,args:=#[s,x],argTypes:=#[t,tn] }){v xv v':Value}(hv:a.eval s=v)(hxv:a.eval x=xv)(hr:∀ ty,(Builtin.append_ #[t,tn] ty #[v,xv]).run P w=.ok v' w')(h:wpList P ops Q rest (a.put o.dst v') w'):wpList P ops Q (o::rest) a w :=
 OF hgd λ_ b=>by
  unfold Oper.wp execOp;simp only[ho,resolve,invoke,builtin,Sem.run_bind,Sem.run_pure,Result.andThen_ok,List.map_toArray,List.map_cons,List.map_nil,hv,hxv,hr];exact b _ _ h
theorem nG (n:Nat)(hn:n<=4398046511104) (w:World):Calls Tryz.prog 223 #[.slice none 0 0,.int .i64 n] w λe w'=>∃ v,e=.returned v/\Row EE w' w.heap.size 116 v []/\Bw w w':=by
 by_cases h0:n=0
 ·subst h0
  go_enter Tryz.func223,Tryz.ntmps223;go_wp2;go_ret;exact⟨_,rfl,Row.nil _ _ _ _,MJ _ _⟩
 ·obtain⟨p, m, g, h, i⟩ := NQ BW
  have a:=λl=>Lib.run_append_nil_zeros (P:=Tryz.prog) w 60 3 l 116 p _ .i64 .i64 Tryz.underlying60 Tryz.underlying3 m g n (by omega) (by rw[h];decide) (by omega) (by rw[i];omega)
  have j:=grownCap_ge w n 0 116;have c:grownCap w n 0 116<=maxLen:=grownCap_le_maxLen w n 0 116 (by unfold maxLen;omega);have b:(Builtin.zeroCells (Value.agg #[.string ⟨#[]⟩,.int .i64 0,.int .i64 0,.int .i64 0]).cells n++Builtin.zeroCells (Value.agg #[.string ⟨#[]⟩,.int .i64 0,.int .i64 0,.int .i64 0]).cells (grownCap w n 0 116-n)).size=grownCap w n 0 116*4:=by
   rw[Array.size_append,OW,OW,show (Value.agg #[.string ⟨#[]⟩,.int .i64 0,.int .i64 0,.int .i64 0]).cells.size=4 from rfl];omega
  generalize (Builtin.zeroCells (Value.agg #[.string ⟨#[]⟩,.int .i64 0,.int .i64 0,.int .i64 0]).cells n++Builtin.zeroCells (Value.agg #[.string ⟨#[]⟩,.int .i64 0,.int .i64 0,.int .i64 0]).cells (grownCap w n 0 116-n))=cur at a b;generalize grownCap w n 0 116=C at a j c b;have o:0<(n:Int):=by omega
  have d:Hid (Row EE (w.drew.alloc (.cells cur 116)) w.1.size 116 (.slice (some ⟨w.1.size,0,none⟩) 0 C) []):=.inr ⟨w.1.size,C,cur,rfl,qn,MD w.drew _,MV _,c,by rw[b];exact qn,by simp[fY.flat]⟩;unfold maxLen at c;have f:=hH a;clear m g h i h0 b a;go_enter Tryz.func223,Tryz.ntmps223
  go_wp2_with (at_builtin;refine kS rfl _ _ 60 3 rfl rfl rfl f ?_)
  go_ret;exact⟨_,rfl,d,⟨rfl,rfl,rfl,qs,λk q=>ML w.drew _ k q⟩⟩
theorem uu (g)(v1 v2)(l1 l2)(w)(hg:g<w.1.size)(c0:w.cell? ⟨g,0,none⟩=some v1)(c1:w.cell? ⟨g,1,none⟩=some v2)(h1:ey EE w v1 l1)(h2:ey EE w v2 l2)(hl:l1.length+l2.length<=2199023255552) :
  Calls Tryz.prog 217 #[.slice (some ⟨g,0,none⟩) 2 2] w λe w'=>∃ u,e=.returned u/\Row EE w' w.1.size 116 u (l1++l2)/\Bw w w':=by
 have z:=hH<|h1.imp λb _ K=>K
 have M:=hH<|h2.imp λb _ K=>K
 obtain⟨R,S,rfl,-,-⟩:=h1.open;obtain⟨T,U,rfl,-,-⟩:=h2.open;have X:=hH hl;clear h1 h2;obtain⟨o,h⟩:=qE l1.length;obtain⟨p,i⟩:=qE l2.length;rw[h,i]at hl;rw[h]at c0 z;rw[i]at c1 M;have y:Hid (l1.length=o/\l2.length=p):=⟨h,i⟩;clear h i;obtain⟨N,O,q,r,s⟩:=NQ BW;go_enter Tryz.func217,Tryz.ntmps217;go_wp2;refine OV 3 ?_;rw[NR];go_wp2;rw[NR];go_wp2;rw[NR];go_wp2_with fail;rw[show (o:Int)+(p:Int)=((o+p:Nat):Int) by omega];refine (nG (o+p) qo _).mono ?_;rintro e H ⟨V,rfl,t,a⟩;have A:=hH a;have m:=hH t;have Q:=dG c0 a hg;have B:=hH<|z.out.up a;have C:=a.size;clear a t z;go_wp2;refine OV 3 ?_;rw[NR]
 go_wp2_with (at_builtin;refine eF _ rfl _ _ 60 rfl EE (λb=>b<w.1.size) w.1.size 116 N _ 40 Tryz.underlying60 O q r s rfl _ [] rfl m _ l1 rfl B (by have:=y.out;unfold maxLen;simp;omega) (by have:=y.out;simp;omega) qo ?_;intro W I c v j)
 have f:=hH<|A.out.grown v C (λk L=>(m.lt k L).1);have n:=hH c;have Y:=dG c1 f hg;have D:=hH<|M.out.up f;have E:=f.out.size;clear c v j Q;rw[NR]
 go_wp2_with (at_builtin;refine eF _ rfl _ _ 60 rfl EE (λb=>b<w.1.size) w.1.size 116 N _ 40 Tryz.underlying60 O q r s rfl _ ([]++l1) rfl n _ l2 rfl D (by have:=y.out;unfold maxLen;simp;omega) (by have:=y.out;simp;omega) qo ?_;intro P J d x l)
 have F:=hH<|f.out.grown x E (λk L=>(n.lt k L).1);have G:=hH<|show Row EE J w.1.size 116 P (l1++l2) by simpa using d
 clear d x l;rw[NR];go_wp2;go_ret;exact⟨_,rfl,G,F⟩
end
end Go.Proofs.YtiifhfmekbhlnaaGreat
