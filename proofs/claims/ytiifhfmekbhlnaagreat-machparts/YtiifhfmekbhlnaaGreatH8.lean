/- Part 8. -/
import Derived.Test.YtiifhfmekbhlnaaGreatH7
set_option maxHeartbeats 8000000
set_option maxRecDepth 100000
namespace Go.Proofs.YtiifhfmekbhlnaaGreat
section
open ChangeShapes WideShapes ChangeAt RowKit Deep It
variable {C:List cL->Int} {S:Nat->Prop}
theorem A9 (hC:iG C)(hM:Sp.kR C)(v)(L)(a b)(s)(st)(w)(hv:cD S w v L)(eE:Sp.m6 L)(hs:s.size<=maxLen) :
  Calls Tryz.prog 167 #[v,.agg #[.int .i64 a,.int .i64 b],.string s,.int .i64 st] w λe w' =>
   ∃ u L',e=.returned (.tuple #[u,.int .i64 (Sp.yN C (pl L) a b s st)])/\cD (λb=>w.1.size<=b) w' u L'/\pl L'=Sp.D3 C (pl L) a b s st/\Bw w w':=by
 obtain⟨W,hW⟩:=qF (w.alloc (BH a b));have T:Hid _:=qB hW;have G:Hid _:=qC hW;have O:w.1.size<W.1.size:=by rw[hW];simp
 have HV:Hid _:=hv.up T;have aX:Hid (∀ V,Bw w V->cD S V v L):=λV h=>hv.up h
 obtain⟨ao,aZ,rfl,hm,hx⟩:=hv.open;have U:Hid _:=eE;have X:Hid _:=hs;have ai:Hid _:=hC;obtain⟨q,hq⟩:=qE (Sp.oQ C (pl L) st a b s);obtain⟨te,z⟩:=qE (Sp.fT C (pl L) st a b s);have x:Hid (Sp.oQ C (pl L) st a b s=q/\Sp.fT C (pl L) st a b s=te):=⟨hq,z⟩;clear hv eE hs hC
 by_cases hz:te=0
 ·subst hz;obtain⟨t,xc,j,en,o,xt,rfl,H,al,am,an,ap,aC,hj,aO,aP,ad,I,af,M,aD,aq,ag,ar,hr,Q,N⟩:=Sp.jT hM z;rw[hq]at aO;subst aO;obtain⟨m,ah,rfl⟩:=Sp.fF H;obtain⟨F,R,rfl⟩:=Sp.fF I;have K:=Oa (Sp.iY _) Q.1;obtain⟨⟨bb,aQ,rfl,hB,au⟩,av⟩:=hx o F R;have Y:Hid (∀ V,Bw w V->eight V bb (aQ+o*8) F):=λV h=>au.below h hB
  have Z:Hid _:=av.len.2;have ba:(o:Int)<(L.length:Int):=by have:=(qM R);omega
  have A:Sp.yN C (pl L) t b s st=if F.i.kind=2 then (if F.i.cE=[] then 0 else 406) else 404:=by
   unfold Sp.yN;rw[z,MC rfl,hq,ag]
  obtain⟨bf,bg,bh,g⟩:=en;simp only at hq aP af aq ag x;subst aP;have aa:∀ e,Sp.yN C (pl L) t b s st=e->e≠0->Sp.D3 C (pl L) t b s st=[]:=λe h h0=>by unfold Sp.D3;rw[ME (by rw[h];exact h0)]
  by_cases hk2:F.i.kind=2
  ·rw[MC hk2]at A;have aj:(F.i.kind==2)=true:=by simp[hk2]
   by_cases he0:F.i.cE=[]
   ·rw[MC he0]at A;obtain⟨aR,aS⟩:=Sp.pr (s:=s) hr H al am an ⟨K,Q.2⟩ N;have aF:t≠o:=by
     intro h;subst h;rw[H]at I;rw[Option.some.inj I,he0]at hj;simp at hj
    have aA:=Sp.zV aS I aF af M;have hT:Sp.D3 C (pl L) t b s st=((pl L).set t (Sp.filled m.i (m.i.cE.eraseIdx (Fo.gy m.i.cE m.i.next s).toNat) m.i.next st)).set o (gone g):=by
     unfold Sp.D3 Sp.gd;rw[A,MC rfl,hq,ar];rfl
    rw[A,hT];obtain⟨T1,aw⟩:=qE ((pl L).set t (Sp.filled m.i (m.i.cE.eraseIdx (Fo.gy m.i.cE m.i.next s).toNat) m.i.next st));have HP:Hid _:=aR.trans aw;rw[aw]at aA |-;have ay:o<T1.length:=by rw[<-aw];simpa using (qM R)
    have aG:Hid (eX T1 o g=0/\gF T1 o g=T1.set o (gone g)):=by
     have h:eX T1 o g=0:=by unfold eX;rw[MC aA,ME qo]
     refine⟨h,?_⟩;unfold gF put;rw[MC h,show ((o:Int)).toNat=o by omega,MC ay]
    have ak:Hid (L[t]?=some m/\(∀ e∈m.i.cE,e.1.size<=maxLen)/\Fo.cM m.i.cE m.i.next s=0/\At.eK m.i.kind m.i.cH m.i.size m.i.cF (m.i.cE.eraseIdx (Fo.gy m.i.cE m.i.next s).toNat).length st=0) :=
     ⟨ah,U m (MG ah),ap,Sp.lH hr H qo Q ⟨qo,by have:=NZ m.i.cE (Fo.gy m.i.cE m.i.next s).toNat;omega⟩⟩
    have aB:F.en=0:=by rw[Z.out,he0];rfl
    have bc:Hid _:=aB;rw[show F.i.cE.length=0 by rw[he0];rfl]at Z;have aH:¬ ((0:Int)<(F.en:Int)):=qo
    clear A hT aa hM z hq hx au av an aq hr Q H al am ap aC hj ar N ah R I af M aD ag K he0 aR aS aA aw ay aF hk2 ad aB;go_enter Tryz.func167,Tryz.ntmps167;obtain⟨⟨a0,a1⟩,_⟩:=cU G;go_wp2_with fail;rw[<-hW];refine (fx ai _ L t b s st _ HV U X).mono ?_;rintro e r ⟨rfl,d⟩;rw[x.out.1,x.out.2];have c:=qJ T d;obtain⟨p,l⟩:=qF (r.alloc (BH o g));have ab:=hH<|show Bw w p by rw[l];exact c.alloc c.size _
    have f:Hid (p.1[w.1.size]?=some (BH t b)/\p.1[r.1.size]?=some (BH o g)):=by
     rw[l];exact⟨(ML _ _ _ (M6 O d.size)).trans ((d.block _ O).trans G),MD _ _⟩
    have B:=(qL f.out.1);have D:=(qL f.out.2);clear d hW a0 a1;have az:=M6 hB c.size;obtain⟨r0,r1,r2,r3,r4,r5,r6,r7⟩:=Y.out _ c;go_wp2_with fail;rw[<-l];refine (fk F _).mono ?_;rintro e J ⟨rfl,E⟩;rw[aj];have k:Bw p J:=by rw[E];exact qG _ _
    have n:=qJ ab k;have P:Hid (J.1[w.1.size]?=some (BH t b)/\J.1[r.1.size]?=some (BH o g)):=⟨(k.block _ B).trans f.out.1,(k.block _ D).trans f.out.2⟩;clear E k r0 r1 r2 r3 r4 r5 r6 r7 l;obtain⟨⟨t0,t1⟩,_⟩:=cU P.out.2;obtain⟨r0,r1,r2,r3,r4,r5,r6,r7⟩:=Y.out _ n;have aY:Hid (∀ w':World,Bw J w'->w'.cell? ⟨w.1.size,0,none⟩=some (.int .i64 t)/\w'.cell? ⟨w.1.size,1,none⟩=some (.int .i64 b)/\w'.cell? ⟨r.1.size,0,none⟩=some (.int .i64 o)/\w'.cell? ⟨r.1.size,1,none⟩=some (.int .i64 g)):=λV h=>by
     obtain⟨⟨a0,a1⟩,_⟩:=cU P.out.1;obtain⟨⟨t0,t1⟩,_⟩:=cU P.out.2;exact⟨cC a0 h,cC a1 h,cC t0 h,cC t1 h⟩
    have aI:Hid (∀ V,Bw J V->Calls Tryz.prog 187 #[.slice (some ⟨bb,aQ,none⟩) L.length aZ,.agg #[.int .i64 t,.int .i64 b],.string s,.int .i64 st] V λe w'=>∃ u L',e=.returned u/\cD (λb=>V.1.size<=b) w' u L'/\pl L'=T1/\Bw V w'):=λV h=>(n8 _ L t b st s m V (aX _ (n.trans (h.mono n.size))) ak.out.1 ak.out.2.1 X ak.out.2.2.1 ak.out.2.2.2).mono λe w' ⟨u,L',h1,h2,h3,h4⟩=>⟨u,L',h1,h2,by rw[h3];exact HP,h4⟩
    go_wp2_with fail;clear t0 t1 r0 r1 r2 r3 r4 r5 r6 r7
    go_region_held3 (λw'=>w'.cell? ⟨w.1.size,0,none⟩=some (.int .i64 t)/\w'.cell? ⟨w.1.size,1,none⟩=some (.int .i64 b)/\w'.cell? ⟨r.1.size,0,none⟩=some (.int .i64 o)/\w'.cell? ⟨r.1.size,1,none⟩=some (.int .i64 g)) (first | exact aY _ (by (repeat (first | assumption | exact MJ _ _ | refine cX ?_ | refine MP ?_ (by first | exact MI _ | assumption) _ | refine Nr ?_ (by first | exact MI _ | assumption) _)))) (first
     | (go_at_call 187;refine (aI _ (by (repeat (first | assumption | exact MJ _ _ | refine cX ?_ | refine MP ?_ (by first | exact MI _ | assumption) _ | refine Nr ?_ (by first | exact MI _ | assumption) _)))).mono ?_;rintro e w3 ⟨u3,L3,rfl,aT,aU,aV⟩;have ac:=dH aV;clear aV)
     | (go_at_call 188;refine (zl _ L3 o g _ aT).mono ?_;rintro e w4 ⟨u4,L4,rfl,aE,ax,aW⟩;have aJ:=ac.trans (aW.mono ac.size)))
    all_goals
     rw[aU]at ax;rw[aG.out.1];rw[aG.out.2]at ax;have aK:=qJ n aJ;have aL:=MS n.size ac.size;have aM:Hid (cD (λb=>w.1.size<=b) w4 u4 L4):=⟨aE.1.imp λ_ h _=>MS aL h,λy hy=>(aE.2 y hy).imp λ_ h _=>MS aL h⟩;have aN:Hid _:=ax;clear aE ax aW aT aU;go_wp2
     refine MK (v:=.tuple #[u4,.int .i64 0]) (by simp[results,Tryz.results167,go_sem]) rfl ?_
     first
      | exact⟨u4,rfl,L4,aM,aN,aK⟩
      | exact⟨u4,L4,rfl,aM,aN,aK⟩
   ·rw[ME he0]at A;rw[A,aa _ A qd];have aB:0<F.en:=by rw[Z.out];exact List.length_pos_iff.2 he0
    have aH:((0:Int)<(F.en:Int)):=qo
    clear A aa hM z hq hx au av an aq hr Q H al am ap aC hj ar N ah R I af M aD ag K he0 hk2 ad;go_enter Tryz.func167,Tryz.ntmps167;obtain⟨⟨a0,a1⟩,_⟩:=cU G;go_wp2_with fail;rw[<-hW];refine (fx ai _ L t b s st _ HV U X).mono ?_;rintro e r ⟨rfl,d⟩;rw[x.out.1,x.out.2];have c:=qJ T d;obtain⟨p,l⟩:=qF (r.alloc (BH o g));have ab:=hH<|show Bw w p by rw[l];exact c.alloc c.size _
    have f:Hid (p.1[w.1.size]?=some (BH t b)/\p.1[r.1.size]?=some (BH o g)):=by
     rw[l];exact⟨(ML _ _ _ (M6 O d.size)).trans ((d.block _ O).trans G),MD _ _⟩
    have B:=(qL f.out.1);have D:=(qL f.out.2);clear d hW a0 a1;have az:=M6 hB c.size;obtain⟨r0,r1,r2,r3,r4,r5,r6,r7⟩:=Y.out _ c;go_wp2_with fail;rw[<-l];refine (fk F _).mono ?_;rintro e J ⟨rfl,E⟩;rw[aj];have k:Bw p J:=by rw[E];exact qG _ _
    have n:=qJ ab k;have P:Hid (J.1[w.1.size]?=some (BH t b)/\J.1[r.1.size]?=some (BH o g)):=⟨(k.block _ B).trans f.out.1,(k.block _ D).trans f.out.2⟩;clear E k r0 r1 r2 r3 r4 r5 r6 r7 l;obtain⟨⟨t0,t1⟩,_⟩:=cU P.out.2;obtain⟨r0,r1,r2,r3,r4,r5,r6,r7⟩:=Y.out _ n;go_wp2
    refine MK (v:=.tuple #[.slice none 0 0,.int .i64 406]) (by simp[results,Tryz.results167,go_sem]) rfl ?_
    first
     | exact⟨_,rfl,[],eG _ _,rfl,n⟩
     | exact⟨_,[],rfl,eG _ _,rfl,n⟩
  ·rw[ME hk2]at A;rw[A,aa _ A qd];have aj:=MQ.2 hk2;clear A aa hM z hq hx au av an aq hr Q H al am ap aC hj ar N ah R I af M aD ag K hk2 ad;go_enter Tryz.func167,Tryz.ntmps167;obtain⟨⟨a0,a1⟩,_⟩:=cU G;go_wp2_with fail;rw[<-hW];refine (fx ai _ L t b s st _ HV U X).mono ?_;rintro e r ⟨rfl,d⟩;rw[x.out.1,x.out.2];have c:=qJ T d;obtain⟨p,l⟩:=qF (r.alloc (BH o g));have ab:=hH<|show Bw w p by rw[l];exact c.alloc c.size _
   have f:Hid (p.1[w.1.size]?=some (BH t b)/\p.1[r.1.size]?=some (BH o g)):=by
    rw[l];exact⟨(ML _ _ _ (M6 O d.size)).trans ((d.block _ O).trans G),MD _ _⟩
   have B:=(qL f.out.1);have D:=(qL f.out.2);clear d hW a0 a1;have az:=M6 hB c.size;obtain⟨r0,r1,r2,r3,r4,r5,r6,r7⟩:=Y.out _ c;go_wp2_with fail;rw[<-l];refine (fk F _).mono ?_;rintro e J ⟨rfl,E⟩;rw[aj];have k:Bw p J:=by rw[E];exact qG _ _
   have n:=qJ ab k;have P:Hid (J.1[w.1.size]?=some (BH t b)/\J.1[r.1.size]?=some (BH o g)):=⟨(k.block _ B).trans f.out.1,(k.block _ D).trans f.out.2⟩;clear E k r0 r1 r2 r3 r4 r5 r6 r7 l;go_wp2
   refine MK (v:=.tuple #[.slice none 0 0,.int .i64 404]) (by simp[results,Tryz.results167,go_sem]) rfl ?_
   first
    | exact⟨_,rfl,[],eG _ _,rfl,n⟩
    | exact⟨_,[],rfl,eG _ _,rfl,n⟩
 ·have A:Sp.yN C (pl L) a b s st=te:=by unfold Sp.yN;rw[ME (by rw[z];exact hz),z]
  have hT:Sp.D3 C (pl L) a b s st=[]:=by unfold Sp.D3;rw[ME (by rw[A];exact hz)]
  rw[A,hT];have bd:(te != 0)=true:=by simpa using hz
  clear hz A hT z hM hx;go_enter Tryz.func167,Tryz.ntmps167;obtain⟨⟨a0,a1⟩,_⟩:=cU G;go_wp2_with fail;rw[<-hW];refine (fx ai _ L a b s st _ HV U X).mono ?_;rintro e r ⟨rfl,d⟩;rw[x.out.1,x.out.2];have c:=qJ T d;clear d hW a0 a1;go_wp2
  refine MK (v:=.tuple #[.slice none 0 0,.int .i64 te]) (by simp[results,Tryz.results167,go_sem]) rfl ?_
  first
   | exact⟨_,rfl,[],eG _ _,rfl,c.alloc c.size _⟩
   | exact⟨_,[],rfl,eG _ _,rfl,c.alloc c.size _⟩
namespace Sp
noncomputable def vR (C:List cL->Int) (L:List cL) (a b:Int) (s:ByteArray) (st:Int):Int :=
 if fT C L st a b s=0 then (if (cY L (oQ C L st a b s).1 (oQ C L st a b s).2).kind=2 then 405 else 0) else fT C L st a b s
noncomputable def yQ (C:List cL->Int) (L:List cL) (a b:Int) (s:ByteArray) (st:Int):List cL :=
 if vR C L a b s st=0 then (gd L a b s st).set (oQ C L st a b s).1.toNat (linked (cY L (oQ C L st a b s).1 (oQ C L st a b s).2) (-1) st) else []
noncomputable def xJ (C:List cL->Int) (L:List cL) (a b:Int) (s:ByteArray) (st:Int):Int × Int:=if vR C L a b s st=0 then oQ C L st a b s else (0,0)
end Sp
theorem kT {A B:Nat}{a b c d:Int}{w:World}(h:w.cell? ⟨A,0,none⟩=some (.int .i64 a)/\w.cell? ⟨A,1,none⟩=some (.int .i64 b)/\w.cell? ⟨B,0,none⟩=some (.int .i64 c)/\w.cell? ⟨B,1,none⟩=some (.int .i64 d)){p:Addr}(h1:A≠p.block)(h2:B≠p.block)(u) :
  (w.setCell p u).cell? ⟨A,0,none⟩=some (.int .i64 a)/\(w.setCell p u).cell? ⟨A,1,none⟩=some (.int .i64 b)/\(w.setCell p u).cell? ⟨B,0,none⟩=some (.int .i64 c)/\(w.setCell p u).cell? ⟨B,1,none⟩=some (.int .i64 d) :=
 ⟨(dJ (MM _ _ _ _ h1)).trans h.1,(dJ (MM _ _ _ _ h1)).trans h.2.1,(dJ (MM _ _ _ _ h2)).trans h.2.2.1,(dJ (MM _ _ _ _ h2)).trans h.2.2.2⟩
theorem yZ (hC:iG C)(hM:Sp.kR C)(v)(L)(a b)(s)(st)(w)(hv:cD S w v L)(eE:Sp.m6 L)(hs:s.size<=maxLen) :
  Calls Tryz.prog 165 #[v,.agg #[.int .i64 a,.int .i64 b],.string s,.int .i64 st] w λe w' =>
   ∃ u L',e=.returned (.tuple #[u,.agg #[.int .i64 (Sp.xJ C (pl L) a b s st).1,.int .i64 (Sp.xJ C (pl L) a b s st).2],.int .i64 (Sp.vR C (pl L) a b s st)])/\cD (λb=>w.1.size<=b) w' u L'/\pl L'=Sp.yQ C (pl L) a b s st/\Bw w w':=by
 obtain⟨W,hW⟩:=qF ((w.alloc (BH a b)).alloc (BH 0 0));have af:=hH<|show Bw w W by rw[hW];exact (qG _ _).alloc qs _
 have P:=hH<|show W.heap[w.heap.size]? = some (BH a b) by rw[hW];exact (ML _ _ _ qs).trans (MD _ _)
 have au:=hH<|show W.heap[w.heap.size + 1]? = some (BH 0 0) by
  rw[hW];have:=MD (w.alloc (BH a b)) (BH 0 0)
  rwa [show (w.alloc (BH a b)).1.size=w.1.size+1 by simp]at this
 have av:w.1.size+1<W.1.size:=by rw[hW];simp
 have ag:w.1.size<W.1.size:=qo
 have HV:Hid _:=hv.up af;have bo:Hid (∀ V,Bw w V->cD S V v L):=λV h=>hv.up h
 obtain⟨ao,bt,rfl,hm,hx⟩:=hv.open;have ah:Hid _:=eE;have ai:Hid _:=hs;have aw:Hid _:=hC;obtain⟨q,hq⟩:=qE (Sp.oQ C (pl L) st a b s);obtain⟨te,D⟩:=qE (Sp.fT C (pl L) st a b s);have E:Hid (Sp.oQ C (pl L) st a b s=q/\Sp.fT C (pl L) st a b s=te):=⟨hq,D⟩;clear hv eE hs hC
 by_cases hz:te=0
 ·subst hz;obtain⟨o,xc,j,en,n,xt,rfl,N,aJ,ak,aK,aL,aY,hj,aZ,ba,ar,p,aa,M,bc,aM,ab,aN,hr,G,ac⟩:=Sp.jT hM D;rw[hq]at aZ;subst aZ;obtain⟨f,al,rfl⟩:=Sp.fF N;obtain⟨H,am,rfl⟩:=Sp.fF p;have I:=Oa (Sp.iY _) G.1;obtain⟨⟨bb,bd,rfl,hB,aO⟩,aP⟩:=hx n H am;have aQ:Hid (∀ V,Bw w V->eight V bb (bd+n*8) H):=λV h=>aO.below h hB
  have bv:Hid _:=aP.len.2;have bw:(n:Int)<(L.length:Int):=by have:=(qM am);omega
  have F:Sp.vR C (pl L) o b s st=if H.i.kind=2 then 405 else 0:=by
   unfold Sp.vR;rw[D,MC rfl,hq,ab]
  obtain⟨bA,bB,bC,g⟩:=en;simp only at hq ba aa aM ab E;subst ba;have ax:∀ e,Sp.vR C (pl L) o b s st=e->e≠0->Sp.yQ C (pl L) o b s st=[]:=λe h h0=>by unfold Sp.yQ;rw[ME (by rw[h];exact h0)]
  have ay:∀ e,Sp.vR C (pl L) o b s st=e->e≠0->Sp.xJ C (pl L) o b s st=(0,0):=λe h h0=>by unfold Sp.xJ;rw[ME (by rw[h];exact h0)]
  by_cases hk2:H.i.kind=2
  ·rw[MC hk2]at F;have az:(H.i.kind==2)=true:=by simp[hk2]
   rw[ax _ F qd,ay _ F qd,F];clear F ax ay hM D hq hx aO aP aK aM hr G N aJ ak aL aY hj aN ac al am p aa M bc ab I hk2 ar;go_enter Tryz.func165,Tryz.ntmps165;obtain⟨⟨a0,a1⟩,_⟩:=cU P;go_wp2_with fail;rw[<-hW];refine (fx aw _ L o b s st _ HV ah ai).mono ?_;rintro e r ⟨rfl,c⟩;rw[E.out.1,E.out.2];have l:=qJ af c;have B:=qK c au;have J:=(qL B);obtain⟨z,A⟩:=qF (r.alloc (BH n g));have aA:=hH<|show Bw w z by rw[A];exact l.alloc l.size _
   have d:Hid (z.1[w.1.size]?=some (BH o b)/\z.1[r.1.size]?=some (BH n g)/\z.1[w.1.size+1]?=some (BH 0 0)):=by
    rw[A];exact⟨(ML _ _ _ (M6 ag c.size)).trans ((c.block _ ag).trans P),MD _ _,(ML _ _ _ J).trans B⟩
   have Q:=(qL d.out.1);have R:=(qL d.out.2.1);have T:=(qL d.out.2.2);clear c hW a0 a1;have aR:=M6 hB l.size;obtain⟨r0,r1,r2,r3,r4,r5,r6,r7⟩:=aQ.out _ l;go_wp2_with fail;rw[<-A];refine (fk H _).mono ?_;rintro e O ⟨rfl,ad⟩;rw[az];have m:Bw z O:=by rw[ad];exact qG _ _
   have U:=qJ aA m;have aB:Hid (O.1[w.1.size]?=some (BH o b)/\O.1[r.1.size]?=some (BH n g)):=⟨(m.block _ Q).trans d.out.1,(m.block _ R).trans d.out.2.1⟩;have X:Hid _:=(m.block _ T).trans d.out.2.2;have Y:=(qL X);clear ad m r0 r1 r2 r3 r4 r5 r6 r7 A;obtain⟨⟨z0,z1⟩,zf⟩:=cU X;go_wp2
   refine MK (v:=.tuple #[.slice none 0 0,.agg #[.int .i64 0,.int .i64 0],.int .i64 405]) ?_ rfl ?_
   ·rw[eB rfl]
    go_simp
   ·have t:=U.out;have bp:=t.size
    first
     | exact⟨_,rfl,[],eG _ _,rfl,by repeat (first | exact t | refine MP ?_ qs _ | refine Nr ?_ qt _)⟩
     | exact⟨_,[],rfl,eG _ _,rfl,by repeat (first | exact t | refine MP ?_ qs _ | refine Nr ?_ qt _)⟩
  ·rw[ME hk2]at F;have az:=MQ.2 hk2;obtain⟨bf,bg⟩:=Sp.pr (s:=s) hr N aJ ak aK ⟨I,G.2⟩ ac;have aS:=At.cG.1 (Sp.m5 hr (MG p));unfold At.dN at aS;have aC:H.i.kind=1:=qo
   have aD:o≠n:=by
    intro h;subst h;rw[N]at p;rw[Option.some.inj p]at ak;omega
   have aE:=Sp.zV bg p aD aa M;have hH:Sp.xJ C (pl L) o b s st=((n:Int),g):=by unfold Sp.xJ;rw[F,MC rfl,hq]
   have hT:Sp.yQ C (pl L) o b s st=((pl L).set o (Sp.filled f.i (f.i.cE.eraseIdx (Fo.gy f.i.cE f.i.next s).toNat) f.i.next st)).set n (Sp.linked H.i (-1) st):=by
    unfold Sp.yQ Sp.gd;rw[F,MC rfl,hq,aN,ab];rfl
   rw[F,hT,hH];obtain⟨T1,an⟩:=qE ((pl L).set o (Sp.filled f.i (f.i.cE.eraseIdx (Fo.gy f.i.cE f.i.next s).toNat) f.i.next st));have HP:Hid _:=bf.trans an;have aF:T1[n]?=some H.i:=by rw[<-an,Oj aD];exact p
   rw[an]at aE |-;have bq:Hid _:=aF;have ap:=(It.cG.1 hr).2.2 H.i (MG p);have HQ:Hid _:=(Sp.gX (y:=Sp.linked H.i (-1) st) aE aF aa M (Sp.pg ap aC ⟨I,G.2⟩ qo) rfl).2;have br:Hid _:=Sp.CG hr p aC G (.inr ⟨rfl,qo⟩);have aj:Hid (L[o]?=some f/\(∀ e∈f.i.cE,e.1.size<=maxLen)/\Fo.cM f.i.cE f.i.next s=0/\At.eK f.i.kind f.i.cH f.i.size f.i.cF (f.i.cE.eraseIdx (Fo.gy f.i.cE f.i.next s).toNat).length st=0) :=
    ⟨al,ah f (MG al),aL,Sp.lH hr N qo G ⟨qo,by have:=NZ f.i.cE (Fo.gy f.i.cE f.i.next s).toNat;omega⟩⟩
   clear F ax ay hM D hq hx aO aP aK aM hr G N aJ ak aL aY hj aN ac al am p aa M bc ab I hk2 ar hT hH bf bg aE an aD aS aC aF ap;go_enter Tryz.func165,Tryz.ntmps165;obtain⟨⟨a0,a1⟩,_⟩:=cU P;go_wp2_with fail;rw[<-hW];refine (fx aw _ L o b s st _ HV ah ai).mono ?_;rintro e r ⟨rfl,c⟩;rw[E.out.1,E.out.2];have l:=qJ af c;have B:=qK c au;have J:=(qL B);obtain⟨z,A⟩:=qF (r.alloc (BH n g));have aA:=hH<|show Bw w z by rw[A];exact l.alloc l.size _
   have d:Hid (z.1[w.1.size]?=some (BH o b)/\z.1[r.1.size]?=some (BH n g)/\z.1[w.1.size+1]?=some (BH 0 0)):=by
    rw[A];exact⟨(ML _ _ _ (M6 ag c.size)).trans ((c.block _ ag).trans P),MD _ _,(ML _ _ _ J).trans B⟩
   have Q:=(qL d.out.1);have R:=(qL d.out.2.1);have T:=(qL d.out.2.2);clear c hW a0 a1;have aR:=M6 hB l.size;obtain⟨r0,r1,r2,r3,r4,r5,r6,r7⟩:=aQ.out _ l;go_wp2_with fail;rw[<-A];refine (fk H _).mono ?_;rintro e O ⟨rfl,ad⟩;rw[az];have m:Bw z O:=by rw[ad];exact qG _ _
   have U:=qJ aA m;have aB:Hid (O.1[w.1.size]?=some (BH o b)/\O.1[r.1.size]?=some (BH n g)):=⟨(m.block _ Q).trans d.out.1,(m.block _ R).trans d.out.2.1⟩;have X:Hid _:=(m.block _ T).trans d.out.2.2;have Y:=(qL X);clear ad m r0 r1 r2 r3 r4 r5 r6 r7 A;have aG:Hid (∀ w':World,Bw O w'->w'.cell? ⟨w.1.size,0,none⟩=some (.int .i64 o)/\w'.cell? ⟨w.1.size,1,none⟩=some (.int .i64 b)/\w'.cell? ⟨r.1.size,0,none⟩=some (.int .i64 n)/\w'.cell? ⟨r.1.size,1,none⟩=some (.int .i64 g)):=λV h=>by
    obtain⟨⟨a0,a1⟩,_⟩:=cU aB.out.1;obtain⟨⟨t0,t1⟩,_⟩:=cU aB.out.2;exact⟨cC a0 h,cC a1 h,cC t0 h,cC t1 h⟩
   have aT:Hid (∀ V,Bw O V->Calls Tryz.prog 187 #[.slice (some ⟨bb,bd,none⟩) L.length bt,.agg #[.int .i64 o,.int .i64 b],.string s,.int .i64 st] V λe w'=>∃ u L',e=.returned u/\cD (λb=>V.1.size<=b) w' u L'/\pl L'=T1/\Bw V w'):=λV h=>(n8 _ L o b st s f V (bo _ (U.trans (h.mono U.size))) aj.out.1 aj.out.2.1 ai aj.out.2.2.1 aj.out.2.2.2).mono λe w' ⟨u,L',h1,h2,h3,h4⟩=>⟨u,L',h1,h2,by rw[h3];exact HP,h4⟩
   have aU:Hid (∀ V u L1 (S:Nat->Prop),cD S V u L1->pl L1=T1->Calls Tryz.prog 185 #[u,.agg #[.int .i64 n,.int .i64 g],.int .i64 (-1),.int .i64 st] V λe w'=>∃ u L',e=.returned u/\cD (λb=>V.1.size<=b) w' u L'/\pl L'=T1.set n (Sp.linked H.i (-1) st)/\Bw V w'):=λV u L1 S h hp=>by
    obtain⟨y1,bu,bh⟩:=Sp.fF (L:=L1) (k:=n) (x:=H.i) (by rw[hp];exact bq);refine (wk u L1 n g (-1) st y1 V h bu (by rw[bh];exact br)).mono λe w' ⟨u,L',h1,h2,h3,h4⟩=>⟨u,L',h1,h2,?_,h4⟩
    rw[h3,hp,bh];exact HQ
   have aH:w.1.size≠w.1.size+1:=qo
   have aI:r.1.size≠w.1.size+1:=qo
   go_wp2_with fail
   go_region_held3 (λw'=>w'.cell? ⟨w.1.size,0,none⟩=some (.int .i64 o)/\w'.cell? ⟨w.1.size,1,none⟩=some (.int .i64 b)/\w'.cell? ⟨r.1.size,0,none⟩=some (.int .i64 n)/\w'.cell? ⟨r.1.size,1,none⟩=some (.int .i64 g)) (first | exact kT (kT (aG _ K) aH aI _) aH aI _ | exact kT (aG _ K) aH aI _ | exact aG _ (by (repeat (first | assumption | exact MJ _ _ | refine cX ?_ | refine MP ?_ (by first | exact MI _ | assumption) _ | refine Nr ?_ (by first | exact MI _ | assumption) _)))) (first
    | (go_at_call 187;refine (aT _ (by (repeat (first | assumption | exact MJ _ _ | refine cX ?_ | refine MP ?_ (by first | exact MI _ | assumption) _ | refine Nr ?_ (by first | exact MI _ | assumption) _)))).mono ?_;rintro e w3 ⟨u3,L3,rfl,bi,bj,bk⟩;have Z:=dH bk;clear bk)
    | (go_at_call 185;refine (aU _ _ L3 _ bi bj).mono ?_;rintro e w4 ⟨u4,L4,rfl,bl,bm,bn⟩;have K:=Z.trans (bn.mono Z.size);obtain⟨⟨z0,z1⟩,zf⟩:=cU ((K.block _ Y).trans X)))
   all_goals
    have bs:=qJ U K;have bx:=M6 Y Z.size;have aV:Hid _:=bl;have aW:Hid _:=bm;clear bl bm bn bi bj;go_wp2
    refine MK (v:=.tuple #[u4,.agg #[.int .i64 n,.int .i64 g],.int .i64 0]) ?_ rfl ?_
    ·rw[eB rfl]
     go_simp
    ·have t:=bs.out;have aq:cD (λb=>w.1.size<=b) ((w4.setCell ⟨w.1.size+1,0,none⟩ (.int .i64 n)).setCell ⟨w.1.size+1,1,none⟩ (.int .i64 g)) u4 L4:=by
      refine⟨?_,λy hy=>?_⟩
      ·refine At.imp (S:=λb=>w3.1.size<=b) ?_ (λb hb _=>by omega)
       repeat (refine At.setCell ?_ qt _)
       exact aV.out.1
      ·refine Good.imp (S:=λb=>w3.1.size<=b) ?_ (λb hb _=>by omega)
       repeat (refine Good.setCell ?_ qt _)
       exact aV.out.2 y hy
     have aX:Bw w ((w4.setCell ⟨w.1.size+1,0,none⟩ (.int .i64 n)).setCell ⟨w.1.size+1,1,none⟩ (.int .i64 g)):=by
      repeat (first | exact t | refine MP ?_ qs _)
     first
      | exact⟨u4,rfl,L4,aq,aW,aX⟩
      | exact⟨u4,L4,rfl,aq,aW,aX⟩
 ·have F:Sp.vR C (pl L) a b s st=te:=by unfold Sp.vR;rw[ME (by rw[D];exact hz),D]
  have hT:Sp.yQ C (pl L) a b s st=[]:=by unfold Sp.yQ;rw[ME (by rw[F];exact hz)]
  have hH:Sp.xJ C (pl L) a b s st=(0,0):=by unfold Sp.xJ;rw[ME (by rw[F];exact hz)]
  rw[F,hT,hH];have bz:(te != 0)=true:=by simpa using hz
  clear hz F hT hH D hM hx;go_enter Tryz.func165,Tryz.ntmps165;obtain⟨⟨a0,a1⟩,_⟩:=cU P;go_wp2_with fail;rw[<-hW];refine (fx aw _ L a b s st _ HV ah ai).mono ?_;rintro e r ⟨rfl,c⟩;rw[E.out.1,E.out.2];have l:=qJ af c;have B:=qK c au;have J:=(qL B);clear c hW a0 a1;obtain⟨⟨z0,z1⟩,zf⟩:=cU B;go_wp2
  refine MK (v:=.tuple #[.slice none 0 0,.agg #[.int .i64 0,.int .i64 0],.int .i64 te]) ?_ rfl ?_
  ·rw[eB rfl]
   go_simp
  ·have t:=l.out;have bp:=t.size
   first
    | exact⟨_,rfl,[],eG _ _,rfl,by repeat (first | exact t | refine MP ?_ qs _ | refine Nr ?_ qt _)⟩
    | exact⟨_,[],rfl,eG _ _,rfl,by repeat (first | exact t | refine MP ?_ qs _ | refine Nr ?_ qt _)⟩
end
section
namespace It
variable {L:List cL}
theorem wF (h:ql L=true):∃ x,L[0]?=some x/\x.kind=2:=by
 cases L with
 | nil=>cases h
 | cons y l=>exact⟨y,rfl,of_decide_eq_true h⟩
variable {x:cL}
theorem Hv (h:L[0]?=some x)(hk:x.kind=2):ql L=true:=by
 cases L with
 | nil=>simp at h
 | cons y l =>
  simp at h;subst h;exact MT hk
theorem EP {g k s:Int}(hg:1<=g/\g<=1099511627776)(hk:k=1\/k=2) (hs:0<=s/\s<=1099511627776):one (fresh g k s)=true:=by
 have a:Bl.right (-1) []:=trivial;have b:Bl.fA []=0:=by unfold Bl.fA;rw[MC a];rfl
 rcases hk with rfl | rfl
 ·rw[fresh,uN hg (At.cG.2 (.inr ⟨⟨by omega,by omega⟩,hs,.inl ⟨rfl,by omega,by omega⟩⟩)),b]
  simp[a]
 ·rw[fresh,C8 hg (At.cG.2 (.inr ⟨⟨qo,by omega⟩,hs,.inr ⟨rfl,rfl⟩⟩))]
  rfl
theorem vq {no:Nat}(h:no<=L.length)(j):(put L no x)[j]?=if j=no then some x else L[j]?:=by
 unfold put;split
 ·rename_i hlt
  rw[Nz]
  by_cases hj:no=j
  ·subst hj
   simp[hlt]
  ·rw[ME hj,ME (λe=>hj e.symm)]
 ·have : no=L.length := by omega
  subst this
  by_cases hj:j=L.length
  ·subst hj
   simp
  ·rw[ME hj]
   rcases Nat.lt_or_gt_of_ne hj with a | a
   ·rw[Oq a]
   ·rw[Ot qt,Ot qo]
theorem rv {no:Nat}(hr:right L=true)(h:no<=L.length)(h24:no<24)(h1:1<=no)(hx:one x=true):right (put L no x)=true:=by
 obtain⟨i,a,b⟩:=cG.1 hr;obtain⟨y,f,d⟩:=wF a;refine cG.2 ⟨?_,?_,λz g=>?_⟩
 ·rw[Bp]
  split <;> omega
 ·refine Hv (x := y) ?_ d
  rw[vq h,ME qo];exact f
 ·obtain⟨j,c⟩ := M1.1 g
  rw[vq h]at c;split at c
  ·cases c
   exact hx
  ·exact b z (MG c)
variable {T:List cL}
theorem ss {kind cF : Int}(he : dL T kind cF=0) : right T=true ∧ oT kind cF=true ∧ (next T).1≠24 ∧ jq T kind cF=put T (next T).1.toNat (fresh (next T).2 kind cF) ∧ lF T kind cF=next T := by
 have a:jq T kind cF=put T (next T).1.toNat (fresh (next T).2 kind cF):=by unfold jq;rw[MC he]
 have b:lF T kind cF=next T:=by unfold lF;rw[MC he]
 unfold dL at he;split at he
 ·rename_i hr
  split at he
  ·rename_i ha
   split at he
   ·cases he
   ·rename_i hn
    exact⟨hr,ha,hn,a,b⟩
  ·cases he
 ·cases he
theorem sD (h:right T=true):1<=T.length/\T.length<=24:=(cG.1 h).1
theorem xp (h:right T=true):1<=(next T).1/\(1<=(next T).2/\(next T).2<=1099511627776):=by
 obtain⟨i,a,b⟩:=cG.1 h;obtain⟨y,d,f⟩:=wF a;rcases lg T with⟨j,x,c,k,l,e⟩ | e
 ·have g := ud (b x (MG c))
  rw[e];refine⟨?_,by show 1<=x.gen+1;omega,by show x.gen+1<=_;omega⟩;have:j≠0:=by
   rintro rfl;rw[d]at c
   cases c
   omega
  show 1<=(j:Int);omega
 ·rw[e]
  exact⟨by show 1<=(T.length:Int);omega,by show (1:Int)<=1;decide,by show (1:Int)<=1099511627776;decide⟩
end It
end
section
open ChangeShapes WideShapes ChangeAt RowKit Deep It
namespace Sp
variable {L:List cL} {kind:Int}
theorem wQ {st:Int}(hm:It.dL L kind st=0):It.right (jq L kind st)=true/\∀ (k:Nat) (x:cL),L[k]?=some x->x.kind≠0->(jq L kind st)[k]?=some x:=by
 obtain⟨f,b,w,s,-⟩:=ss hm;have p:kind=1\/kind=2:=by unfold oT at b;simp only[Bool.and_eq_true,decide_eq_true_eq]at b;exact b.1
 have c:0<=st/\st<=1099511627776:=by unfold oT at b;simp only[Bool.and_eq_true,decide_eq_true_eq]at b;exact b.2
 obtain⟨t,g⟩:=xp f;obtain⟨u,v⟩:=CQ L;have n:=sD f;rw[s];refine⟨rv f qo qo qo (EP g p c),λk x l m=>?_⟩;have a:=vq (x:=fresh (next L).2 kind st) (show (next L).1.toNat<=L.length by omega) k;have d:k≠(next L).1.toNat:=by
  intro h;have q:=(MN.1 l).1;rcases lg L with⟨j,y,o,i,-,e⟩ | e
  ·rw[e]at h
   have r:k=j:=by simpa using h
   subst r;rw[l]at o
   cases o
   exact m i
  ·rw[e]at h
   simp at h;omega
 rw[ME d]at a;rw[a];exact l
theorem mK {C:List cL->Int}{a b:Int}{s:ByteArray}{st:Int}(h:dL C L a b s kind st=0):(C L=0/\top L<=st/\st<=1099511627776)/\(kind=1\/kind=2)/\eS L a b=0:=by
 unfold dL at h
 by_cases hs:gv C L st=0
 ·rw[MC hs]at h
  by_cases hk:kind=1\/kind=2
  ·rw[MC hk]at h
   exact⟨iZ hs,hk,(mO h).1⟩
  ·rw[ME hk]at h
   exact absurd h qd
 ·rw[ME hs]at h
  exact absurd h hs
noncomputable def p6 (C:List cL->Int) (L:List cL) (a b:Int) (s:ByteArray) (kind st:Int):Int :=
 if dL C L a b s kind st=0 then (if It.dL L kind st=0 then Fo.eM (fc L a b) (fy L a b) s (lF L kind st).1 (lF L kind st).2 else It.dL L kind st) else dL C L a b s kind st
noncomputable def vL (C:List cL->Int) (L:List cL) (a b:Int) (s:ByteArray) (kind st:Int):List cL :=
 if p6 C L a b s kind st=0 then
  (jq L kind st).set a.toNat (filled (cY L a b) ((cY L a b).cE++[(s,(cY L a b).next+1,(lF L kind st).1,(lF L kind st).2)]) ((cY L a b).next+1) st)
 else []
noncomputable def sL (C:List cL->Int) (L:List cL) (a b:Int) (s:ByteArray) (kind st:Int):Int × Int :=
 if p6 C L a b s kind st=0 then lF L kind st else (0,0)
end Sp
end
end Go.Proofs.YtiifhfmekbhlnaaGreat
namespace Go.Proofs.YtiifhfmekbhlnaaGreat
section
open ChangeShapes WideShapes ChangeAt RowKit Deep It
variable {C:List cL->Int} {S:Nat->Prop}
theorem EB (hC:iG C)(hM:Sp.kR C)(v:Value)(L:List Rw)(a b:Int)(s:ByteArray)(kind st:Int)(w:World)(hv:cD S w v L) (eE:Sp.m6 L)(hs:s.size<=maxLen) :
  Calls Tryz.prog 179 #[v,.agg #[.int .i64 a,.int .i64 b],.string s,.int .i64 kind,.int .i64 st] w λe w' =>
   ∃ u L',e = .returned (.tuple #[u,.agg #[.int .i64 (Sp.sL C (pl L) a b s kind st).1,.int .i64 (Sp.sL C (pl L) a b s kind st).2],.int .i64 (Sp.p6 C (pl L) a b s kind st)])/\cD (λb=>w.1.size<=b) w' u L'/\pl L' = Sp.vL C (pl L) a b s kind st/\Bw w w':=by
 obtain⟨W,Y⟩:=qF ((w.alloc (BH a b)).alloc (BH 0 0));have z:Hid (Bw w W):=by show Bw w W;rw[Y];exact (qG _ _).alloc (by simp) _
 have l:=hH<|show W.heap[w.heap.size]? = some (BH a b) by rw [Y];exact (ML _ _ _ qs).trans (MD _ _)
 have H:Hid (W.1[w.1.size+1]?=some (BH 0 0)):=by
  show W.1[w.1.size+1]?=_;rw[Y];have:=MD (w.alloc (BH a b)) (BH 0 0)
  rwa [show (w.alloc (BH a b)).heap.size=w.heap.size+1 by simp] at this
 have bj:w.1.size + 1<W.heap.size:=by rw[Y];simp
 have bk:w.heap.size<W.heap.size:=qo
 have X:Hid (cD S W v L):=hv.up z;obtain ⟨ao,au,rfl,_,_⟩:=hv.open;have aa:Hid (Sp.m6 L):=eE;have Q:=hH hs;have ap:Hid (iG C):=hC;clear hv eE hs hC;obtain⟨le,D⟩:=qE (Sp.dL C (pl L) a b s kind st);have aq:Hid (Sp.dL C (pl L) a b s kind st=le):=D;obtain⟨me,J⟩:=qE (It.dL (pl L) kind st);obtain ⟨q,r,hq⟩:∃ q r,lF (pl L) kind st=(q,r):=⟨_,_,rfl⟩;have R:Hid (It.dL (pl L) kind st = me/\lF (pl L) kind st=(q,r)):=⟨J,hq⟩
 by_cases hz:le = 0
 ·subst hz;obtain⟨⟨aM,av,aw⟩,bh,hd⟩:=Sp.mK D;obtain ⟨hr,bi,aj,-⟩:=hM _ aM;obtain⟨f,xc,rfl,K,ax,ay,aN,aO,aP,-⟩:=Sp.jo hd;obtain ⟨d,aQ,rfl⟩:=Sp.fF K
  by_cases hm0:me=0
  ·subst hm0;obtain ⟨ae,aR⟩:=qE (Fo.eM d.i.cE d.i.next s q r);have N:Sp.p6 C (pl L) f b s kind st=ae:=by unfold Sp.p6;rw [MC D,MC J,aN,aO,hq,aR]
   have aU:=hH aR;have aB:cY (pl L) f b = d.i:=by
    obtain⟨k',x',h1,h2,-,-,h3,-⟩:=Sp.gL aP;obtain rfl:f = k':=qo
    rw [K]at h2;rw [h3];exact (Option.some.inj h2).symm
   obtain⟨aS,ak⟩:=Sp.wQ J;have ab:=ak f d.i K (by omega);obtain⟨T1,az⟩:=qE (jq (pl L) kind st);rw [az]at aS ab;have aH:=aj d.i (MG K);have aC:=(It.cG.1 hr).2.2 d.i (MG K);have aD:0<=st:=Oa (Sp.iY _) av;have aV:cM T1 f b=0:=by
    unfold cM;rw [MC aS,MC ?_];unfold names;rw[show ((f:Int)).toNat = f by omega,ab];simp[ax,ay]
   have aW:=(Sp.gX (y:=Sp.filled d.i (d.i.cE ++ [(s,d.i.next+1,q,r)]) (d.i.next + 1) st) aV ab ax (by show d.i.kind≠0;omega) (Sp.fQ aC ay ⟨aD,aw⟩ qt) rfl).2;obtain ⟨T2,aT⟩:=qE (T1.set f (Sp.filled d.i (d.i.cE++[(s,d.i.next + 1,q,r)]) (d.i.next+1) st));have HP:Hid (iJ T1 f b (Sp.filled d.i (d.i.cE++[(s,d.i.next+1,q,r)]) (d.i.next+1) st)=T2):=aW.trans aT;have hT:Sp.vL C (pl L) f b s kind st=if ae = 0 then T2 else []:=by
    unfold Sp.vL;rw[N,aB,hq,az,<-aT];rfl
   have hH:Sp.sL C (pl L) f b s kind st = if ae=0 then (q,r) else (0,0):=by unfold Sp.sL;rw [N,hq]
   have aE:Hid (Fo.eM d.i.cE d.i.next s q r=0->d.i.cE.length + 1<=3518437208883/\At.eK d.i.kind d.i.cH d.i.size d.i.cF (d.i.cE.length+1) st = 0):=λ_=>⟨by omega,Sp.lH hr K (by omega) ⟨av,aw⟩ ⟨by omega,by omega⟩⟩
   have aX:Hid (∀ e∈d.i.cE,e.1.size<=maxLen):=aa.out d (MG aQ);have aY:Hid (T1[f]?=some d.i):=ab;have aZ:Hid (jq (pl L) kind st=T1):=az;rw [N,hT,hH];clear D aM av aw bh hd hr bi aj K ax ay aN aO aP aQ aR N aB aS ak ab az aH aC aD aV aW aT hT hH J hq hM
   by_cases hz:ae=0
   ·subst hz;rw [MC rfl,MC rfl];go_enter Tryz.func179,Tryz.ntmps179;obtain⟨⟨a0,a1⟩,_⟩:=cU l.out;go_wp2_with fail;rw[<-Y];refine (jt ap.out _ L f b s kind st _ X aa.out Q).mono ?_;rintro e o ⟨rfl,c⟩;rw [aq.out];have p:=qJ z c;have T:=qK c l;have m:=qK c H;have ac:w.1.size+1<o.1.size:=(qL m);have ad:w.heap.size<o.heap.size:=qo
    have U:Hid (cD S o (.slice ao L.length au) L):=X.out.up c;clear c Y X l H a0 a1;go_wp2_with fail;refine (vA _ L kind st _ U).mono ?_;rintro e j ⟨u,P,rfl,ht,hp,g⟩;rw [R.out.1,R.out.2];have M:=qJ p g;have V:=hH<|(g.block _ qo).trans T;have I:=qK g m;have O:=(qL I.out);have aF:w.1.size < j.1.size:=by omega
    have aI:=hH ht;have ar:Hid (pl P=T1):=hp.trans aZ;obtain ⟨y1,al,am⟩:=Sp.fF (L:=P) (k:=f) (x:=d.i) (by rw[ar.out];exact aY.out);have A:Hid (P[f]?=some y1/\y1.i = d.i):=⟨al,am⟩;obtain⟨t,E⟩:=qF (j.alloc (BH q r));have n:Bw j t:=by rw [E];exact qG _ _
    have af:=qJ M n;have B:Hid (t.heap[w.1.size]? = some (BH f b)/\t.1[j.heap.size]?=some (BH q r)/\t.heap[w.1.size + 1]?=some (BH 0 0)):=⟨(n.block _ (by omega)).trans V,by rw [E];exact MD _ _,(n.block _ O).trans I⟩;have aJ:Hid (cD (λb=>o.1.size<=b) t u P):=aI.out.up n;have ag:=(qL B.out.2.1);have ah:w.1.size+1<t.1.size:=(qL B.out.2.2);obtain⟨⟨a0,a1⟩,_⟩:=cU V.out;clear g ht hp al am n;go_wp2_with fail;rw[<-E];refine (nT _ P f b q r st s y1 _ aJ.out A.out.1 (by rw[A.out.2];exact aX.out) Q (by rw [A.out.2];exact aE)).mono ?_;rintro e Z ⟨u3,L3,rfl,aA,F,G⟩;rw [A.out.2]at F |-;rw [aU.out]at F |-;have aK:=hH<|af.out.trans (G.mono af.size);have ai:=hH<|(G.block _ ah).trans B.out.2.2;have aL:Hid (Z.1[j.1.size]?=some (BH q r)):=(G.block _ ag).trans B.out.2.1;have ba:=(qL ai.out);obtain⟨⟨z0,z1⟩,zf⟩:=cU ai.out;obtain⟨⟨p0,p1⟩,pf⟩:=cU aL.out;rw[MC rfl,ar.out,HP.out] at F;have bb:=hH aA;have bc:Hid (pl L3=T2):=F;clear G aA F a0 a1 E;go_wp2_with fail
    go_region
    all_goals
     go_wp2
    refine MK (v:=.tuple #[u3,.agg #[.int .i64 q,.int .i64 r],.int .i64 0]) ?_ rfl ?_
    ·rw [eB rfl]
     go_simp
    ·have h:=aK.out;have aG:cD (λb=>w.1.size<=b) ((Z.setCell ⟨w.heap.size+1,0,none⟩ (.int .i64 q)).setCell ⟨w.heap.size+1,1,none⟩ (.int .i64 r)) u3 L3:=by
      refine ⟨?_,λy hy=>?_⟩
      ·refine At.imp (S:=λb=>t.1.size<=b) ?_ (λb hb _=>by omega)
       repeat (refine At.setCell ?_ (by simp;omega) _)
       exact bb.out.1
      ·refine Good.imp (S:=λb=>t.1.size<=b) ?_ (λb hb _=>by omega)
       repeat (refine Good.setCell ?_ (by simp;omega) _)
       exact bb.out.2 y hy
     have bd:Bw w ((Z.setCell ⟨w.1.size + 1,0,none⟩ (.int .i64 q)).setCell ⟨w.1.size + 1,1,none⟩ (.int .i64 r)):=by
      repeat (first | exact h | refine MP ?_ qs _)
     first
      | exact ⟨u3,rfl,L3,aG,bc,cX bd⟩
      | exact ⟨u3,L3,rfl,aG,bc,cX bd⟩
   ·rw [ME hz,ME hz];have bf:(ae != 0)=true:=by simpa using hz
    go_enter Tryz.func179,Tryz.ntmps179;obtain ⟨⟨a0,a1⟩,_⟩:=cU l;go_wp2_with fail;rw [<-Y];refine (jt ap _ L f b s kind st _ X.out aa Q.out).mono ?_;rintro e o ⟨rfl,c⟩;rw[aq.out];have p:=hH<|z.out.trans (c.mono z.size);have T:=qK c l;have m:=qK c H;have ac:=(qL m.out);have ad:w.1.size < o.1.size:=by omega
    have U:=hH<|X.out.up c;clear c Y X l H a0 a1;go_wp2_with fail;refine (vA _ L kind st _ U.out).mono ?_;rintro e j ⟨u,P,rfl,ht,hp,g⟩;rw[R.out.1,R.out.2];have M:=hH<|p.out.trans (g.mono p.size);have V:=qK g T;have I:=qK g m;have O:w.1.size+1<j.1.size:=(qL I);have aF:w.heap.size<j.heap.size:=qo
    have aI:Hid (cD (λb=>o.1.size<=b) j u P):=ht;have ar:=hH<|hp.trans aZ.out;obtain⟨y1,al,am⟩:=Sp.fF (L:=P) (k:=f) (x:=d.i) (by rw [ar.out];exact aY);have A:Hid (P[f]? = some y1/\y1.i=d.i):=⟨al,am⟩;obtain ⟨t,E⟩:=qF (j.alloc (BH q r));have n:Bw j t:=by rw[E];exact qG _ _
    have af:=hH<|M.out.trans (n.mono M.size);have B:Hid (t.1[w.heap.size]?=some (BH f b)/\t.heap[j.1.size]? = some (BH q r)/\t.1[w.heap.size+1]? = some (BH 0 0)):=⟨(n.block _ qo).trans V.out,by rw[E];exact MD _ _,(n.block _ O).trans I.out⟩;have aJ:=hH<|aI.out.up n;have ag:j.1.size<t.1.size:=(qL B.out.2.1);have ah:=(qL B.out.2.2);obtain ⟨⟨a0,a1⟩,_⟩:=cU V;clear g ht hp al am n;go_wp2_with fail;rw [<-E];refine (nT _ P f b q r st s y1 _ aJ A.out.1 (by rw [A.out.2];exact aX) Q.out (by rw[A.out.2];exact aE.out)).mono ?_;rintro e Z ⟨u3,L3,rfl,aA,F,G⟩;rw[A.out.2] at F |-;rw[aU.out] at F |-;have aK:=qJ af G;have ai:Hid (Z.1[w.1.size+1]?=some (BH 0 0)):=(G.block _ ah).trans B.out.2.2;have aL:=hH<|(G.block _ ag).trans B.out.2.1;have ba:w.1.size+1<Z.1.size:=(qL ai);obtain ⟨⟨z0,z1⟩,zf⟩:=cU ai;obtain ⟨⟨p0,p1⟩,pf⟩:=cU aL;clear G aA F a0 a1 E hz;go_wp2
    (try simp only[Exit.inBlock,Exit.then])
    refine MK (v:=.tuple #[.slice none 0 0,.agg #[.int .i64 0,.int .i64 0],.int .i64 ae]) ?_ rfl ?_
    ·rw[eB rfl]
     go_simp
    ·have h:=aK.out;have bg:=h.size
     first
      | exact ⟨_,rfl,[],eG _ _,rfl,by repeat (first | exact h | refine MP ?_ qs _ | refine Nr ?_ (by simp;omega) _)⟩
      | exact⟨_,[],rfl,eG _ _,rfl,by repeat (first | exact h | refine MP ?_ (by simp) _ | refine Nr ?_ qt _)⟩
  ·have N:Sp.p6 C (pl L) f b s kind st = me:=by unfold Sp.p6;rw[MC D,ME (by rw [J];exact hm0),J]
   have hT:Sp.vL C (pl L) f b s kind st=[]:=by unfold Sp.vL;rw [ME (by rw[N];exact hm0)]
   have hH:Sp.sL C (pl L) f b s kind st = (0,0):=by unfold Sp.sL;rw[ME (by rw [N];exact hm0)]
   rw[N,hT,hH];have bf:(me != 0) = true:=by simpa using hm0
   clear D aM av aw bh hd hr bi aj K ax ay aN aO aP aQ N hT hH J hq hM hm0;go_enter Tryz.func179,Tryz.ntmps179;obtain⟨⟨a0,a1⟩,_⟩:=cU l.out;go_wp2_with fail;rw[<-Y];refine (jt ap.out _ L f b s kind st _ X aa.out Q).mono ?_;rintro e o ⟨rfl,c⟩;rw [aq.out];have p:=qJ z c;have T:=qK c l;have m:=qK c H;have ac:w.1.size+1<o.1.size:=(qL m);have ad:w.heap.size<o.heap.size:=qo
   have U:Hid (cD S o (.slice ao L.length au) L):=X.out.up c;clear c Y X l H a0 a1;go_wp2_with fail;refine (vA _ L kind st _ U).mono ?_;rintro e j ⟨u,P,rfl,ht,hp,g⟩;rw [R.out.1,R.out.2];have M:=qJ p g;have V:=hH<|(g.block _ qo).trans T;have I:=qK g m;have O:=(qL I.out);have aF:w.1.size < j.1.size:=by omega
   obtain⟨⟨z0,z1⟩,zf⟩:=cU I.out;clear g ht hp;go_wp2
   refine MK (v:=.tuple #[.slice none 0 0,.agg #[.int .i64 0,.int .i64 0],.int .i64 me]) ?_ rfl ?_
   ·rw [eB rfl]
    go_simp
   ·have h:=M.out;have bg:=h.size
    first
     | exact⟨_,rfl,[],eG _ _,rfl,by repeat (first | exact h | refine MP ?_ (by simp) _ | refine Nr ?_ qt _)⟩
     | exact ⟨_,[],rfl,eG _ _,rfl,by repeat (first | exact h | refine MP ?_ qs _ | refine Nr ?_ (by simp;omega) _)⟩
 ·have N:Sp.p6 C (pl L) a b s kind st=le:=by unfold Sp.p6;rw [ME (by rw[D];exact hz),D]
  have hT:Sp.vL C (pl L) a b s kind st = []:=by unfold Sp.vL;rw[ME (by rw [N];exact hz)]
  have hH:Sp.sL C (pl L) a b s kind st=(0,0):=by unfold Sp.sL;rw [ME (by rw[N];exact hz)]
  rw [N,hT,hH];have bf:(le != 0)=true:=by simpa using hz
  clear hz N hT hH D J hq hM;go_enter Tryz.func179,Tryz.ntmps179;obtain ⟨⟨a0,a1⟩,_⟩:=cU l;go_wp2_with fail;rw [<-Y];refine (jt ap _ L a b s kind st _ X.out aa Q.out).mono ?_;rintro e o ⟨rfl,c⟩;rw[aq.out];have p:=hH<|z.out.trans (c.mono z.size);have T:=qK c l;have m:=qK c H;have ac:=(qL m.out);have ad:w.1.size < o.1.size:=by omega
  have U:=hH<|X.out.up c;clear c Y X l H a0 a1;obtain ⟨⟨z0,z1⟩,zf⟩:=cU m;go_wp2
  (try simp only[Exit.inBlock,Exit.then])
  refine MK (v:=.tuple #[.slice none 0 0,.agg #[.int .i64 0,.int .i64 0],.int .i64 le]) ?_ rfl ?_
  ·rw[eB rfl]
   go_simp
  ·have h:=p.out;have bg:=h.size
   first
    | exact ⟨_,rfl,[],eG _ _,rfl,by repeat (first | exact h | refine MP ?_ qs _ | refine Nr ?_ (by simp;omega) _)⟩
    | exact⟨_,[],rfl,eG _ _,rfl,by repeat (first | exact h | refine MP ?_ (by simp) _ | refine Nr ?_ qt _)⟩
def tL (C:List cL->Int) (I:List cL->Int->Int->Bool):Prop:=∀ (S:Nat->Prop) (v:Value) (L:List Rw) (no to:Int) (w:World),cD S w v L->Sp.m6 L->C (pl L) = 0->(∃ (k:Nat) (x:cL),no = k/\(pl L)[k]? = some x/\x.kind≠0) ->
 Calls Tryz.prog 210 #[v,.int .i64 no,.int .i64 to] w λe w'=>e = .returned (.bool (I (pl L) no to))/\Bw w w'
noncomputable def Sp.iz (I:List cL->Int->Int->Bool) (L:List cL) (no a b:Int) (s:ByteArray):Int:=if (fH L a b s = 0\/fH L a b s = 403)/\I L no a = true then 410 else fH L a b s
variable {I:List cL->Int->Int->Bool}
theorem nW (hI:tL C I)(v:Value)(L:List Rw)(no g a b:Int)(s:ByteArray)(w:World)(hv:cD S w v L) (eE:Sp.m6 L)(hs:s.size<=maxLen) (hc:C (pl L)=0) (hk:∃ (k:Nat) (x:cL),no=k/\(pl L)[k]? = some x/\x.kind≠0) :
  Calls Tryz.prog 189 #[v,.agg #[.int .i64 no,.int .i64 g],.agg #[.int .i64 a,.int .i64 b],.string s] w λe w'=>e=.returned (.int .i64 (Sp.iz I (pl L) no a b s))/\Bw w w':=by
 obtain ⟨W,n⟩:=qF ((w.alloc (BH no g)).alloc (BH a b));have f:=hH<|show Bw w W by rw [n];exact (qG _ _).alloc qs _
 have d:Hid (W.heap[w.1.size]? = some (BH no g)/\W.1[w.heap.size+1]? = some (BH a b)):=by
  rw[n];refine ⟨(ML _ _ _ qs).trans (MD _ _),?_⟩;have:=MD (w.alloc (BH no g)) (BH a b)
  rwa [show (w.alloc (BH no g)).heap.size=w.heap.size+1 by simp] at this
 have M:w.1.size + 1<W.heap.size:=by rw[n];simp
 have K:Hid (cD S W v L):=hv.up f;have m:Hid (∀ V,Bw w V->Calls Tryz.prog 210 #[v,.int .i64 no,.int .i64 a] V λe w'=>e = .returned (.bool (I (pl L) no a))/\Bw V w'):=λV h=>hI S v L no a V (hv.up h) eE hc hk
 obtain⟨N,J,rfl,_,_⟩:=hv.open;have p:Hid (Sp.m6 L):=eE;have q:=hH hs;clear hv eE hs hI hc hk;obtain ⟨o,l⟩:=qE (Sp.fH (pl L) a b s);have r:=hH l;obtain ⟨i,F⟩:=qE (I (pl L) no a);have G:Hid (∀ V,Bw w V->Calls Tryz.prog 210 #[.slice N L.length J,.int .i64 no,.int .i64 a] V λe w'=>e=.returned (.bool i)/\Bw V w'):=by rw [<-F];exact m
 clear m
 by_cases h1:o = 0\/o=403
 ·have t : Sp.iz I (pl L) no a b s = if i=true then 410 else o := by
   unfold Sp.iz;rw [l,F]
   by_cases h:i=true
   ·rw [MC ⟨h1,h⟩,MC h]
   ·rw[ME (λx=>h x.2),ME h]
  rw [t];clear t l F;rcases h1 with rfl | rfl <;> cases i
  all_goals
   go_enter Tryz.func189,Tryz.ntmps189;obtain⟨⟨y,z⟩,_⟩:=cU d.out.1;obtain ⟨⟨A,B⟩,_⟩:=cU d.out.2;go_wp2_with fail;rw[<-n];refine (gV _ L a b s _ K.out p q.out).mono ?_;rintro e D ⟨rfl,c⟩;rw[r.out];have j:=hH<|f.out.trans (c.mono f.size);have u:Hid (D.1[w.heap.size]?=some (BH no g)/\D.heap[w.1.size + 1]?=some (BH a b)):=⟨(c.block _ (by omega)).trans d.out.1,(c.block _ qo).trans d.out.2⟩;clear c n y z A B;obtain ⟨⟨y,z⟩,_⟩:=cU u.out.1;obtain⟨⟨A,B⟩,_⟩:=cU u.out.2;go_wp2_with fail;refine (G.out _ j).mono ?_;rintro e O ⟨rfl,E⟩;have H:=hH<|j.out.trans (E.mono j.size);clear E y z A B;go_wp2;go_ret;exact⟨rfl,H.out⟩
 ·have t : Sp.iz I (pl L) no a b s=o := by
   unfold Sp.iz;rw [l,ME (λx=>h1 x.1)]
  rw[t];have P:(o==0)=false:=MQ.2 λh=>h1 (.inl h)
  have Q:=MQ.2 λh=>h1 (.inr h)
  clear t l F h1;go_enter Tryz.func189,Tryz.ntmps189;obtain ⟨⟨y,z⟩,_⟩:=cU d.out.1;obtain⟨⟨A,B⟩,_⟩:=cU d.out.2;go_wp2_with fail;rw [<-n];refine (gV _ L a b s _ K p.out q).mono ?_;rintro e D ⟨rfl,c⟩;rw [r.out];have j:=qJ f c;clear c n y z A B;go_wp2;go_ret;exact ⟨rfl,j⟩
namespace Sp
variable {st:Int}
theorem Iz (L:List cL):∀ m:Int,m<=st->(∀ x∈L,x.cF<=st)->L.foldl (λm x=>max m x.cF) m<=st:=by
 induction L with
 | nil=>intro m a _;exact a
 | cons x L ih=>exact λm a h=>ih (max m x.cF) (by have:=h x (by simp);omega) (λy b=>h y (by simp[b]))
variable {L:List cL}
theorem xx (h0:0<=st) (h:∀ x∈L,x.cF<=st):top L<=st:=Iz L 0 h0 h
theorem mF {I:List cL->Int->Int->Bool}{no a b:Int}{s:ByteArray}(h:iz I L no a b s=0):eS L a b=0:=by
 unfold iz at h;split at h
 ·exact absurd h qd
 ·exact (mO h).1
noncomputable def sZ (L:List cL) (a b:Int) (s:ByteArray) (st c:Int):cL:=((gd L a b s st)[c.toNat]?).getD gU
noncomputable def yh (C:List cL->Int) (I:List cL->Int->Int->Bool) (L:List cL) (a b:Int) (s:ByteArray) (c d:Int) (s2:ByteArray) (st:Int):Int :=
 if fT C L st a b s = 0 then (if iz I L (oQ C L st a b s).1 c d s2 = 0 then Fo.eM (sZ L a b s st c).cE (sZ L a b s st c).next s2 (oQ C L st a b s).1 (oQ C L st a b s).2 else iz I L (oQ C L st a b s).1 c d s2) else fT C L st a b s
noncomputable def vK (C:List cL->Int) (I:List cL->Int->Int->Bool) (L:List cL) (a b:Int) (s:ByteArray) (c d:Int) (s2:ByteArray) (st:Int):List cL :=
 if yh C I L a b s c d s2 st = 0 then (gd L a b s st).set c.toNat (filled (sZ L a b s st c) ((sZ L a b s st c).cE ++ [(s2,(sZ L a b s st c).next + 1,(oQ C L st a b s).1,(oQ C L st a b s).2)]) ((sZ L a b s st c).next + 1) st) else []
theorem Mk {kc kd:Nat}{xc xd:cL}{es:List eA}(hxc:L[kc]?=some xc)(hkc:xc.kind=2)(hlc:es.length<=1536)(hsub:∀ e∈es,e∈xc.cE)(hst:top L<=st/\st<=1099511627776)(hxd:L[kd]?=some xd)(hkd:xd.kind=2)(hld:xd.cE.length<=1536)(hr1:It.right (L.set kc (filled xc es xc.next st))=true) :
  ∃ x1 : cL, (L.set kc (filled xc es xc.next st))[kd]?=some x1 ∧ x1.gen=xd.gen ∧ x1.kind=2 ∧ x1.cE.length ≤ 1536 ∧ (∀ e ∈ x1.cE, e ∈ xd.cE) ∧ cM (L.set kc (filled xc es xc.next st)) kd xd.gen=0 ∧
   ∀ (e:eA) (nx:Int),At.eK x1.kind x1.cH x1.size x1.cF (x1.cE.length+1) st=0/\iJ (L.set kc (filled xc es xc.next st)) kd xd.gen (filled x1 (x1.cE++[e]) nx st)=(L.set kc (filled xc es xc.next st)).set kd (filled x1 (x1.cE++[e]) nx st):=by
 have b:=Oa (iY _) hst.1;have f:top (L.set kc (filled xc es xc.next st))<=st:=by
  refine xx b λx m=>?_
  rcases List.mem_or_eq_of_mem_set m with h | rfl
  ·exact Oa (Be h) hst.1
  ·exact Ng _
 have j:∃ x1:cL,(L.set kc (filled xc es xc.next st))[kd]?=some x1/\x1.gen=xd.gen/\x1.kind=2/\x1.cE.length<=1536/\∀ e∈x1.cE,e∈xd.cE:=by
  by_cases h:kc=kd
  ·subst h
   rw[hxc]at hxd;obtain rfl:=Option.some.inj hxd;refine⟨filled xc es xc.next st,?_,rfl,hkc,hlc,hsub⟩;rw[Ny (MN.1 hxc).1]
  ·exact⟨xd,by rw[Oj h];exact hxd,rfl,hkd,hld,λ_ h=>h⟩
 obtain⟨x1,a,c,d,k,l⟩:=j;have g:=(It.cG.1 hr1).2.2 x1 (MG a);have i:cM (L.set kc (filled xc es xc.next st)) kd xd.gen=0:=by
  unfold cM;rw[MC hr1,MC ?_];unfold names;rw[show ((kd:Int)).toNat=kd by omega,a];simp[c,d]
 refine⟨x1,a,c,d,k,l,i,λe nx=>⟨lH hr1 a qo ⟨f,hst.2⟩ ⟨qo,qo⟩,?_⟩⟩;exact (gX (y:=filled x1 (x1.cE++[e]) nx st) i a c (by show x1.kind≠0;omega) (fQ g d ⟨b,hst.2⟩ qt) rfl).2
end Sp
theorem AH (hC:iG C) (hM:Sp.kR C)(hI:tL C I)(v:Value)(L:List Rw)(a b:Int)(s:ByteArray)(c d:Int)(s2:ByteArray)(st:Int)(w:World)(hv:cD S w v L) (eE:Sp.m6 L)(hs:s.size<=maxLen) (xo:s2.size<=maxLen) :
  Calls Tryz.prog 168 #[v,.agg #[.int .i64 a,.int .i64 b],.string s,.agg #[.int .i64 c,.int .i64 d],.string s2,.int .i64 st] w λe w' =>
   ∃ u L',e=.returned (.tuple #[u,.int .i64 (Sp.yh C I (pl L) a b s c d s2 st)])/\cD (λb=>w.heap.size<=b) w' u L'/\pl L'=Sp.vK C I (pl L) a b s c d s2 st/\Bw w w':=by
 obtain ⟨W,hW⟩:=qF ((w.alloc (BH a b)).alloc (BH c d));have ag:=hH<|show Bw w W by rw [hW];exact (qG _ _).alloc qs _
 have r:Hid (W.heap[w.1.size]? = some (BH a b)/\W.1[w.heap.size+1]? = some (BH c d)):=by
  rw[hW];refine ⟨(ML _ _ _ qs).trans (MD _ _),?_⟩;have:=MD (w.alloc (BH a b)) (BH c d)
  rwa [show (w.alloc (BH a b)).heap.size=w.heap.size+1 by simp] at this
 have ay:w.1.size + 1<W.heap.size:=by rw[hW];simp
 have HV:Hid _:=hv.up ag.out;have az:Hid (∀ V,Bw w V->cD S V v L):=λV h=>hv.up h
 obtain⟨ao,bq,rfl,_,_⟩:=hv.open;have F:Hid _:=eE;have G:Hid (s.size<=maxLen/\s2.size<=maxLen):=⟨hs,xo⟩;have U:Hid (iG C/\tL C I):=⟨hC,hI⟩;obtain ⟨⟨A,E⟩,hq⟩:=qE (Sp.oQ C (pl L) st a b s);obtain⟨te,o⟩:=qE (Sp.fT C (pl L) st a b s);have N:Hid (Sp.oQ C (pl L) st a b s = (A,E)/\Sp.fT C (pl L) st a b s=te):=⟨hq,o⟩;clear hv eE hs xo hC hI
 by_cases hz:te = 0
 ·subst hz;have ah:C (pl L)=0:=by
   have h:=o;unfold Sp.fT at h
   by_cases hse:Sp.gv C (pl L) st = 0
   ·exact (Sp.iZ hse).1
   ·rw[ME hse] at h;exact absurd h hse
  obtain⟨p,xc,j,en,kt,xt,rfl,P,aC,am,aD,aE,aV,hj,an,aF,aw,aG,aW,af,aX,aY,aZ,aH,hr,Q,M⟩:=Sp.jT hM o;rw [hq]at an;have aA:A = kt:=by rw[<-aF,<-an]
  obtain ⟨f,ap,rfl⟩:=Sp.fF P;have X:=Oa (Sp.iY _) Q.1;have ai:Hid (C (pl L) = 0/\∃ (k:Nat) (x:cL),A=k/\(pl L)[k]? = some x/\x.kind≠0):=⟨ah,kt,xt,aA,aG,af⟩;obtain⟨mv,T⟩:=qE (Sp.iz I (pl L) A c d s2);have aM:Hid _:=T
  by_cases hm0:mv = 0
  ·subst hm0;obtain⟨B,xd,rfl,aq,ba,bb,-,-,-,-⟩:=Sp.jo (Sp.mF T);obtain ⟨yd,bc,rfl⟩:=Sp.fF aq;obtain⟨aI,bd⟩:=Sp.pr (s:=s) hr P aC am aD ⟨X,Q.2⟩ M;have Y:=(hM _ ah).2.2.1 yd.i (MG aq);obtain ⟨q,ar,br,bs,bt,ax,bu,au⟩:=Sp.Mk (es:=f.i.cE.eraseIdx (Fo.gy f.i.cE f.i.next s).toNat) (st:=st) P am (MS (NZ ..) M) (λe he=>OO he) Q aq bb Y bd;have aj:Sp.gd (pl L) p b s st=(pl L).set p (Sp.filled f.i (f.i.cE.eraseIdx (Fo.gy f.i.cE f.i.next s).toNat) f.i.next st):=by
    unfold Sp.gd;rw [aH];rfl
   obtain⟨T1,bf⟩:=qE ((pl L).set p (Sp.filled f.i (f.i.cE.eraseIdx (Fo.gy f.i.cE f.i.next s).toNat) f.i.next st));rw [bf]at aI ar au aj;have Z:Sp.sZ (pl L) p b s st B = q:=by
    unfold Sp.sZ;rw[aj,show ((B:Int)).toNat = B by omega,ar];rfl
   obtain⟨ae,aJ⟩:=qE (Fo.eM q.cE q.next s2 A E);obtain ⟨T2,aK⟩:=qE (T1.set B (Sp.filled q (q.cE++[(s2,q.next + 1,A,E)]) (q.next+1) st));have hE:Sp.yh C I (pl L) p b s B d s2 st = ae:=by
    unfold Sp.yh;rw[o,MC rfl,hq,T,MC rfl,Z,aJ]
   have hT:Sp.vK C I (pl L) p b s B d s2 st = if ae=0 then T2 else []:=by
    unfold Sp.vK;rw [hE,hq,Z,aj,show ((B:Int)).toNat=B by omega,aK]
   have aN:Hid _:=aJ;have HP:Hid _:=aI;have bl:Hid (iJ T1 B d (Sp.filled q (q.cE ++ [(s2,q.next+1,A,E)]) (q.next + 1) st)=T2):=by rw [<-ba,<-aK];exact (au _ _).2
   have aB:Hid (T1[B]?=some q/\(∀ e∈q.cE,e.1.size<=maxLen)/\q.cE.length + 1<=3518437208883/\At.eK q.kind q.cH q.size q.cF (q.cE.length+1) st = 0):=⟨ar,λe he=>F.out yd (MG bc) e (ax e he),qo,(au (s2,0,0,0) 0).1⟩;have ak:Hid (L[p]? = some f/\(∀ e∈f.i.cE,e.1.size<=maxLen)/\Fo.cM f.i.cE f.i.next s=0/\At.eK f.i.kind f.i.cH f.i.size f.i.cF (f.i.cE.eraseIdx (Fo.gy f.i.cE f.i.next s).toNat).length st = 0) :=
    ⟨ap,F f (MG ap),aE,Sp.lH hr P (by omega) Q ⟨qo,by have:=NZ f.i.cE (Fo.gy f.i.cE f.i.next s).toNat;omega⟩⟩
   obtain ⟨R,hR⟩:=qE (if ae=0 then T2 else []);have bm:Hid _:=hR;rw [hE,hT,hR];clear hR ah P aC am aD aE aV hj an aF aw aG aW af aX aY aZ aH hr Q M aA ap X T aq ba bb bc aI bd Y ar br bs bt ax bu au aj bf Z aJ aK hE hT hM o hq;go_enter Tryz.func168,Tryz.ntmps168;obtain⟨⟨a0,a1⟩,_⟩:=cU r.out.1;go_wp2_with fail;rw [<-hW];refine (fx U.out.1 _ L p b s st _ HV F.out G.out.1).mono ?_;rintro e l ⟨rfl,g⟩;rw[N.out.1,N.out.2];have aa:=qJ ag g;have m:Hid (l.heap[w.1.size]? = some (BH p b)/\l.1[w.heap.size+1]? = some (BH B d)):=⟨(g.block _ qo).trans r.out.1,(g.block _ ay).trans r.out.2⟩;have J:w.1.size+1<l.1.size:=(qL m.out.2);have K:w.1.size < l.1.size:=by omega
   clear g hW a0 a1;obtain⟨W1,D⟩:=qF (l.alloc (BH A E));have t:Bw l W1:=by rw [D];exact qG _ _
   have ab:=qJ aa t;have z:Hid (W1.1[w.heap.size]?=some (BH p b)/\W1.heap[l.1.size]? = some (BH A E)/\W1.1[w.heap.size+1]? = some (BH B d)):=⟨(t.block _ K).trans m.out.1,by rw[D];exact MD _ _,(t.block _ J).trans m.out.2⟩;have ac:l.heap.size<W1.heap.size:=(qL z.out.2.1);obtain ⟨⟨g0,g1⟩,_⟩:=cU m.out.2;clear t;go_wp2_with fail;rw [<-D];refine (nW U.out.2 _ L A E B d s2 _ (az.out _ ab.out) F.out G.out.2 ai.out.1 ai.out.2).mono ?_;rintro e w2 ⟨rfl,n⟩;rw[aM.out];have O:=qJ ab n;have al:Hid (w2.heap[w.1.size]? = some (BH p b)/\w2.1[l.heap.size]?=some (BH A E)/\w2.heap[w.1.size + 1]?=some (BH B d)):=⟨(n.block _ (by omega)).trans z.out.1,(n.block _ ac).trans z.out.2.1,(n.block _ qo).trans z.out.2.2⟩;clear n D g0 g1;have bn:Hid (∀ w':World,Bw w2 w'->w'.cell? ⟨w.heap.size,0,none⟩=some (.int .i64 p)/\w'.cell? ⟨w.heap.size,1,none⟩=some (.int .i64 b)/\w'.cell? ⟨l.heap.size,0,none⟩=some (.int .i64 A)/\w'.cell? ⟨l.heap.size,1,none⟩=some (.int .i64 E)/\w'.cell? ⟨w.heap.size+1,0,none⟩ = some (.int .i64 B)/\w'.cell? ⟨w.1.size + 1,1,none⟩=some (.int .i64 d)):=λV h=>by
    obtain ⟨⟨a0,a1⟩,_⟩:=cU al.out.1;obtain⟨⟨t0,t1⟩,_⟩:=cU al.out.2.1;obtain ⟨⟨g0,g1⟩,_⟩:=cU al.out.2.2;exact⟨cC a0 h,cC a1 h,cC t0 h,cC t1 h,cC g0 h,cC g1 h⟩
   have aO:Hid (∀ V,Bw w2 V->Calls Tryz.prog 187 #[.slice ao L.length bq,.agg #[.int .i64 p,.int .i64 b],.string s,.int .i64 st] V λe w'=>∃ u L',e = .returned u/\cD (λb=>V.1.size<=b) w' u L'/\pl L' = T1/\Bw V w'):=λV h=>(n8 _ L p b st s f V (az _ (O.out.trans (h.mono O.size))) ak.out.1 ak.out.2.1 G.out.1 ak.out.2.2.1 ak.out.2.2.2).mono λe w' ⟨u,L',h1,h2,h3,h4⟩=>⟨u,L',h1,h2,by rw [h3];exact HP,h4⟩
   have aP:Hid (∀ V u L1 (S:Nat->Prop),cD S V u L1->pl L1 = T1->Calls Tryz.prog 184 #[u,.agg #[.int .i64 B,.int .i64 d],.string s2,.agg #[.int .i64 A,.int .i64 E],.int .i64 st] V λe w'=>∃ u L',e=.returned (.tuple #[u,.int .i64 ae])/\cD (λb=>V.heap.size<=b) w' u L'/\pl L'=R/\Bw V w'):=λV u L1 S h hp=>by
    obtain ⟨y1,bv,av⟩:=Sp.fF (L:=L1) (k:=B) (x:=q) (by rw[hp];exact aB.out.1);refine (nT u L1 B d A E st s2 y1 V h bv (by rw [av];exact aB.out.2.1) G.out.2 (by rw[av];exact λ_=>aB.out.2.2)).mono λe w' ⟨u,L',h1,h2,h3,h4⟩=>⟨u,L',?_,h2,?_,h4⟩
    ·rw [h1,av,aN.out]
    ·rw[h3,av,aN.out,hp,bl.out,bm.out]
   go_wp2_with fail
   go_region_held3 (λw'=>w'.cell? ⟨w.heap.size,0,none⟩=some (.int .i64 p)/\w'.cell? ⟨w.heap.size,1,none⟩=some (.int .i64 b)/\w'.cell? ⟨l.heap.size,0,none⟩=some (.int .i64 A)/\w'.cell? ⟨l.heap.size,1,none⟩=some (.int .i64 E)/\w'.cell? ⟨w.heap.size+1,0,none⟩ = some (.int .i64 B)/\w'.cell? ⟨w.1.size + 1,1,none⟩=some (.int .i64 d)) (first | exact bn.out _ (by (repeat (first | assumption | exact MJ _ _ | refine cX ?_ | refine MP ?_ (by first | exact MI _ | assumption) _ | refine Nr ?_ (by first | exact MI _ | assumption) _)))) (first
    | (go_at_call 187;refine (aO _ (by (repeat (first | assumption | exact MJ _ _ | refine cX ?_ | refine MP ?_ (by first | exact MI _ | assumption) _ | refine Nr ?_ (by first | exact MI _ | assumption) _)))).mono ?_;rintro e w3 ⟨u3,L3,rfl,bg,bh,bi⟩;have ad:Bw w2 w3:=dH bi;clear bi)
    | (go_at_call 184;refine (aP _ _ L3 _ bg bh).mono ?_;rintro e w4 ⟨u4,L4,rfl,aL,bj,bk⟩;have aQ:Bw w2 w4:=ad.trans (bk.mono ad.size)))
   all_goals
    have aR:=qJ O aQ;have aS:=MS O.out.size ad.size;have aT:Hid (cD (λb=>w.1.size<=b) w4 u4 L4):=⟨aL.1.imp λ_ h _=>MS aS h,λy hy=>(aL.2 y hy).imp λ_ h _=>MS aS h⟩;have aU:Hid _:=bj;clear aL bj bk bg bh;go_wp2
    (try simp only[Exit.inBlock,Exit.then])
    refine MK (v:=.tuple #[u4,.int .i64 ae]) (by simp[results,Tryz.results168,go_sem]) rfl ?_
    first
     | exact ⟨u4,rfl,L4,aT,aU.out,aR⟩
     | exact ⟨u4,L4,rfl,aT,aU.out,aR⟩
  ·have hE:Sp.yh C I (pl L) p b s c d s2 st = mv:=by unfold Sp.yh;rw[o,MC rfl,hq,T,ME hm0]
   have hT:Sp.vK C I (pl L) p b s c d s2 st = []:=by unfold Sp.vK;rw[ME (by rw [hE];exact hm0)]
   rw[hE,hT];have bo:(mv != 0) = true:=by simpa using hm0
   clear ah P aC am aD aE aV hj an aF aw aG aW af aX aY aZ aH hr Q M aA ap X T hm0 hE hT hM o hq;go_enter Tryz.func168,Tryz.ntmps168;obtain⟨⟨a0,a1⟩,_⟩:=cU r.out.1;go_wp2_with fail;rw [<-hW];refine (fx U.out.1 _ L p b s st _ HV F.out G.out.1).mono ?_;rintro e l ⟨rfl,g⟩;rw[N.out.1,N.out.2];have aa:=qJ ag g;have m:Hid (l.heap[w.1.size]? = some (BH p b)/\l.1[w.heap.size+1]? = some (BH c d)):=⟨(g.block _ qo).trans r.out.1,(g.block _ ay).trans r.out.2⟩;have J:w.1.size+1<l.1.size:=(qL m.out.2);have K:w.1.size < l.1.size:=by omega
   clear g hW a0 a1;obtain⟨W1,D⟩:=qF (l.alloc (BH A E));have t:Bw l W1:=by rw [D];exact qG _ _
   have ab:=qJ aa t;have z:Hid (W1.1[w.heap.size]?=some (BH p b)/\W1.heap[l.1.size]? = some (BH A E)/\W1.1[w.heap.size+1]? = some (BH c d)):=⟨(t.block _ K).trans m.out.1,by rw[D];exact MD _ _,(t.block _ J).trans m.out.2⟩;have ac:l.heap.size<W1.heap.size:=(qL z.out.2.1);obtain ⟨⟨g0,g1⟩,_⟩:=cU m.out.2;clear t;go_wp2_with fail;rw [<-D];refine (nW U.out.2 _ L A E c d s2 _ (az.out _ ab.out) F.out G.out.2 ai.out.1 ai.out.2).mono ?_;rintro e w2 ⟨rfl,n⟩;rw[aM.out];have O:=qJ ab n;have al:Hid (w2.heap[w.1.size]? = some (BH p b)/\w2.1[l.heap.size]?=some (BH A E)/\w2.heap[w.1.size + 1]?=some (BH c d)):=⟨(n.block _ (by omega)).trans z.out.1,(n.block _ ac).trans z.out.2.1,(n.block _ qo).trans z.out.2.2⟩;clear n D g0 g1;go_wp2
   (try simp only[Exit.inBlock,Exit.then])
   refine MK (v:=.tuple #[.slice none 0 0,.int .i64 mv]) (by simp[results,Tryz.results168,go_sem]) rfl ?_;have H:=O.out;have bp:=H.size
   first
    | exact ⟨_,rfl,[],eG _ _,rfl,by repeat (first | exact H | refine MP ?_ qs _ | refine Nr ?_ (by first | omega | (simp;omega)) _)⟩
    | exact ⟨_,[],rfl,eG _ _,rfl,by repeat (first | exact H | refine MP ?_ qs _ | refine Nr ?_ (by first | omega | (simp;omega)) _)⟩
 ·have hE:Sp.yh C I (pl L) a b s c d s2 st = te:=by unfold Sp.yh;rw[ME (by rw [o];exact hz),o]
  have hT:Sp.vK C I (pl L) a b s c d s2 st=[]:=by unfold Sp.vK;rw [ME (by rw[hE];exact hz)]
  rw [hE,hT];have bo:(te != 0)=true:=by simpa using hz
  clear hz hE hT o hM hq;go_enter Tryz.func168,Tryz.ntmps168;obtain ⟨⟨a0,a1⟩,_⟩:=cU r.out.1;go_wp2_with fail;rw[<-hW];refine (fx U.out.1 _ L a b s st _ HV.out F G.out.1).mono ?_;rintro e l ⟨rfl,g⟩;rw [N.out.1,N.out.2];have aa:=qJ ag g;have m:Hid (l.1[w.heap.size]?=some (BH a b)/\l.heap[w.1.size + 1]?=some (BH c d)):=⟨(g.block _ (by omega)).trans r.out.1,(g.block _ ay).trans r.out.2⟩;have J:=(qL m.out.2);have K:w.heap.size<l.heap.size:=qo
  clear g hW a0 a1;go_wp2
  (try simp only[Exit.inBlock,Exit.then])
  refine MK (v:=.tuple #[.slice none 0 0,.int .i64 te]) (by simp[results,Tryz.results168,go_sem]) rfl ?_;have H:=aa.out;have bp:=H.size
  first
   | exact ⟨_,rfl,[],eG _ _,rfl,by repeat (first | exact H | refine MP ?_ qs _ | refine Nr ?_ (by first | omega | (simp;omega)) _)⟩
   | exact ⟨_,[],rfl,eG _ _,rfl,by repeat (first | exact H | refine MP ?_ qs _ | refine Nr ?_ (by first | omega | (simp;omega)) _)⟩
end
section
open ChangeShapes WideShapes ChangeAt RowKit Deep
theorem E4 (u v)(l)(w)(hu:cT w.1.size w u l)(hv:cT w.1.size w v l) :
  Calls Tryz.prog 37 #[u,v] w λe w'=>e=.returned (.bool true)/\Bw w w':=by
 obtain⟨I,J,rfl,r,h⟩:=hu.open;obtain⟨K,x,rfl,_,m⟩:=hv.open;clear hu hv;unfold maxLen at r;obtain⟨n,y⟩:=qE l.length;rw[y]at r h m |-;have F:=hH h;have G:=hH m;clear y h m;go_enter Tryz.func37,Tryz.ntmps37;go_wp2;go_loopw [8] (λi L=>∃ k:Nat,k<=n/\i=.int .i64 k/\Bw w L) (λi _=>n-(intOf i).toNat)
 case atStart=>exact⟨0,MV _,rfl,MJ _ _⟩
 case round =>
  obtain⟨k,M,rfl,c⟩:=hrel
  by_cases hlt:k<n
  ·obtain⟨b,a,rfl,z,A,B⟩ := F k hlt
   obtain⟨C,d,rfl,g,D,E⟩:=G.out k hlt;rw[<-c.cell (p:=⟨b,a+k*2,none⟩) z]at A;rw[<-c.cell (p:=⟨b,a+k*2+1,none⟩) z]at B;rw[<-c.cell (p:=⟨C,d+k*2,none⟩) g]at D;rw[<-c.cell (p:=⟨C,d+k*2+1,none⟩) g]at E;generalize l.getD k (0,.empty)=f at A B D E;obtain⟨t,s⟩:=f;have o:(k:Int)<(n:Int):=qo
   have H:decide ((n:Int)<=(k:Int))=false:=qt
   have q:decide (n<=k)=false:=qt
   go_wp2
   go_quiet (fail)
   go_wp2
   go_roundw
   case rel=>exact⟨k+1,qo,by go_num,Ol c _⟩
   case measure=>simp[intOf];omega
  ·obtain rfl : k=n := by omega
   go_wp2;go_ret;exact⟨qs,c⟩
end
section
open ChangeShapes WideShapes ChangeAt RowKit Deep It
def Sp.dW (R:List cL->Bool) (L:List cL):Int:=if R L = true then 0 else 4
end
end Go.Proofs.YtiifhfmekbhlnaaGreat
