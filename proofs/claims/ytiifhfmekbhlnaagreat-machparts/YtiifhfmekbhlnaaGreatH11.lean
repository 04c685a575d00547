/- Part 11. -/
import Derived.Lib.LazyBuf
import Derived.Test.YtiifhfmekbhlnaaGreatH10
set_option maxHeartbeats 8000000
set_option maxRecDepth 100000
namespace Go.Proofs.YtiifhfmekbhlnaaGreat
section
open ChangeShapes WideShapes ChangeAt RowKit Deep It
theorem C1 {L:List cL}{a b qa qb:Int}{s:ByteArray}(h:Sp.lG (Sp.dW Sp.cZ) L a b s≠0)(hq:Sp.ti (Sp.dW Sp.cZ) L a b s=(qa,qb)):qa=0/\qb=0:=by
 unfold Sp.lG at h;unfold Sp.ti at hq
 by_cases hc:Sp.dW Sp.cZ L=0
 ·rw[MC hc]at h hq;unfold Sp.eY at h;unfold Sp.jD at hq
  by_cases hd:Sp.eS L a b=0
  ·rw[MC hd]at h hq;have:Fo.found (Sp.fc L a b) (Sp.fy L a b) s=Fo.vF:=by
    unfold Fo.found;rw[ME h]
   rw[this]at hq;exact⟨(Ox Prod.fst hq).symm,(Ox Prod.snd hq).symm⟩
  ·rw[ME hd]at hq;exact⟨(Ox Prod.fst hq).symm,(Ox Prod.snd hq).symm⟩
 ·rw[ME hc]at hq;exact⟨(Ox Prod.fst hq).symm,(Ox Prod.snd hq).symm⟩
namespace Nf
def atR (L:List cL) (no:Int):cL:=(L[no.toNat]?).getD gU
end Nf
theorem GO {L:List Rw}{a b:Int}{s:ByteArray}(h:Sp.lG (Sp.dW Sp.cZ) (pl L) a b s=0):∃ (k:Nat) (y:Rw),(Sp.ti (Sp.dW Sp.cZ) (pl L) a b s).1=(k:Int)/\L[k]?=some y/\Nf.atR (pl L) (Sp.ti (Sp.dW Sp.cZ) (pl L) a b s).1=y.i:=by
 unfold Sp.lG at h
 by_cases hc:Sp.dW Sp.cZ (pl L)=0
 ·rw[MC hc]at h;obtain⟨-,-,-,f⟩:=eQ _ hc;obtain⟨t,q,g⟩:=Sp.qg h;obtain⟨A,l,-,u,-,-,m,n,-,-⟩:=Sp.jo t;rw[m,n]at q g;rcases Fo.mx l.cE l.next s with ⟨j,e,-,v,r,-,-,-,-⟩ | ⟨-,B⟩
  ·rw[Fo.rM q v r]at g;obtain⟨w,-,-⟩:=f l (MG u) e (MG r);obtain⟨d,C,x,c,-,-,-,-⟩:=Sp.gL w;obtain⟨y,z,o⟩:=Sp.fF c;have p:(Sp.ti (Sp.dW Sp.cZ) (pl L) a b s).1=(d:Int):=by
    unfold Sp.ti;rw[MC hc,g];exact x
   refine⟨d,y,p,z,?_⟩;rw[p];unfold Nf.atR;rw[show ((d:Int)).toNat=d by omega,c,o];rfl
  ·omega
 ·rw[ME hc]at h;exact absurd h hc
theorem DE {S : Nat → Prop} (vi vo vs : Value) (dn cl : Int) (c : fw) (L : List Rw) (B : Nat) (w : World) (hB : w.heap[B]? = some (gj vi vo vs dn cl c)) (hv : cD S w vi L) (eE : Sp.m6 L) (hs : c.nm.size ≤ maxLen) :
    Calls Tryz.prog 128 #[.pointer (some ⟨B,0,none⟩)] w λe w'=>∃ k l s t:Int,e = .returned (nr (Sp.lG (Sp.dW Sp.cZ) (pl L) c.no c.gen c.nm) (Sp.ti (Sp.dW Sp.cZ) (pl L) c.no c.gen c.nm).1 (Sp.ti (Sp.dW Sp.cZ) (pl L) c.no c.gen c.nm).2 k l s t ⟨#[]⟩ (.slice none 0 0) 0)/\(k,l,s,t) = (if Sp.lG (Sp.dW Sp.cZ) (pl L) c.no c.gen c.nm = 0 then ((Nf.atR (pl L) (Sp.ti (Sp.dW Sp.cZ) (pl L) c.no c.gen c.nm).1).kind,(Nf.atR (pl L) (Sp.ti (Sp.dW Sp.cZ) (pl L) c.no c.gen c.nm).1).cH,(Nf.atR (pl L) (Sp.ti (Sp.dW Sp.cZ) (pl L) c.no c.gen c.nm).1).size,(Nf.atR (pl L) (Sp.ti (Sp.dW Sp.cZ) (pl L) c.no c.gen c.nm).1).cF) else (0,0,0,0))/\Bw w w':=by
  have hBl:=(MH.1 hB).1;have HB:Hid (w.heap[B]? = some (gj vi vo vs dn cl c)):=hB;obtain ⟨W,hW⟩:=qF (w.alloc fJ);have HB0:Hid _:=qB hW;have HA0:Hid _:=qC hW;have HT0:Hid (W.heap[B]? = some (gj vi vo vs dn cl c)):=(HB0.out.block _ hBl).trans hB;have HV:Hid (cD S W vi L):=hv.up HB0.out;have hwW:w.heap.size < W.heap.size:=(MH.1 HA0.out).1;have hBW:B < W.heap.size:=(MH.1 HT0.out).1;have hBne:B≠w.heap.size:=by omega
  obtain ⟨t0,-,-,-,-,-,t6,t7,-,-,t10,-,-,-,-⟩:=gh HT0.out;obtain ⟨ao,cap,rfl,-,-⟩:=hv.open;obtain ⟨n,hn'⟩:=qE L.length;rw [hn'] at t0 HV HT0 HB;have HSG:Hid (∀ V:World,Bw W V->V.cell? ⟨B,0,none⟩ = some (.slice ao n cap)/\V.cell? ⟨B,6,none⟩ = some (.int .i64 c.no)/\V.cell? ⟨B,7,none⟩ = some (.int .i64 c.gen)/\V.cell? ⟨B,10,none⟩ = some (.string c.nm)):=λV h=>⟨cC t0 h,cC t6 h,cC t7 h,cC t10 h⟩
  clear hv hB hn' t0 t6 t7 t10;obtain ⟨E,hE⟩:=qE (Sp.lG (Sp.dW Sp.cZ) (pl L) c.no c.gen c.nm);obtain ⟨⟨qa,qb⟩,hq⟩:=qE (Sp.ti (Sp.dW Sp.cZ) (pl L) c.no c.gen c.nm);have HIT:Hid (E = 0->∃ (k:Nat) (y:Rw),qa = (k:Int)/\L[k]? = some y/\Nf.atR (pl L) qa = y.i):=λh0=>by
    have:=GO (hE.trans h0);rw [hq] at this;exact this
  have HNO:Hid (E≠0->qa = 0/\qb = 0):=λh0=>C1 (by rw [hE];exact h0) hq
  rw [hE,hq];simp only;obtain ⟨q4,hq4⟩:=qE (if E = 0 then ((Nf.atR (pl L) qa).kind,(Nf.atR (pl L) qa).cH,(Nf.atR (pl L) qa).size,(Nf.atR (pl L) qa).cF) else (0,0,0,0));rw [hq4];have HQ4:Hid ((if E = 0 then ((Nf.atR (pl L) qa).kind,(Nf.atR (pl L) qa).cH,(Nf.atR (pl L) qa).size,(Nf.atR (pl L) qa).cF) else (0,0,0,0)) = q4):=hq4;clear hq4;have HC:Hid (∀ V,Bw W V->Calls Tryz.prog 153 #[.slice ao n cap,.agg #[.int .i64 c.no,.int .i64 c.gen],.string c.nm] V λe w'=>e = .returned (.tuple #[.agg #[.int .i64 qa,.int .i64 qb],.int .i64 E])/\Bw V w'):=λV h=>by
    refine (Gm jd _ L c.no c.gen c.nm V (HV.out.up h) eE hs).mono ?_;rintro e w' ⟨h1,h4⟩;rw [hE,hq] at h1;exact ⟨h1,h4⟩
  clear hE hq eE hs;go_enter Tryz.func128,Tryz.ntmps128;go_wp2_with fail;rw [<-hW];clear hW;have HB01:Hid (Bw W (W.alloc (BH 0 0))):=qG _ _;have HB02:Hid (Bw W (W.drew.alloc (BH 0 0))):=(cX (MJ _ _)).alloc (MI _) _;apply lM
  · intro hK
    go_region_held3 (λV=>V.cell? ⟨B,0,none⟩ = some (.slice ao n cap)/\V.cell? ⟨B,6,none⟩ = some (.int .i64 c.no)/\V.cell? ⟨B,7,none⟩ = some (.int .i64 c.gen)/\V.cell? ⟨B,10,none⟩ = some (.string c.nm)) (first | exact HSG.out _ (by (repeat (first | with_reducible assumption | with_reducible exact MJ _ _ | with_reducible refine cX ?_ | with_reducible refine MP ?_ (by first | exact MI _ | assumption) _ | with_reducible refine Nr ?_ (by first | exact MI _ | assumption) _)))) (first
      | (go_at_call 153; refine (HC.out _ (by first | exact MJ _ _ | exact cX (MJ _ _) | exact HB01.out | exact HB02.out | exact cX HB01.out)).mono ?_; rintro e w5 ⟨rfl, hb5⟩;  have hb55 : Bw W w5 := (by first | exact hb5 | exact dH hb5 | exact HB02.out.trans (hb5.mono HB02.out.size) | exact HB01.out.trans ((dH hb5).mono HB01.out.size) | exact HB01.out.trans (hb5.mono HB01.out.size)); have h5s : W.heap.size ≤ w5.heap.size := hb55.size; (first
        | (have hz5:w5.heap[W.heap.size]? = some (BH 0 0):=(by first | exact (hb5.block _ (by simp)).trans (MD W.drew _) | exact (hb5.block _ (by show _ < Array.size _;simp)).trans (MD W _));have f0:=cJ hz5 0;have f1:=cJ hz5 1;have ff:=dw hz5;have HZ5:Hid (w5.heap[W.heap.size]? = some (BH 0 0)):=hz5; clear hz5)
        | (skip));clear hb5))
    all_goals first
      | (obtain ⟨Y, hY⟩ : ∃ Y, Y = w5.alloc (BH qa qb) := ⟨_, rfl⟩
         rw [<-hY];have hYB:Bw W Y:=by rw [hY];exact hb55.alloc hb55.size _
         obtain ⟨A,hA⟩:=qF w5.heap.size;have hYX:Y.heap[A]? = some (BH qa qb):=by rw [hY,hA];exact MD _ _
         have hAw:W.heap.size<=A:=by rw [hA];exact h5s
         rw [<-hA];clear hA hY)
      | (obtain ⟨Y, hY⟩ : ∃ Y, Y = ((w5.setCell ⟨W.heap.size, 0, none⟩ (.int .i64 qa)).setCell ⟨W.heap.size, 1, none⟩ (.int .i64 qb)) := ⟨_, rfl⟩
         rw [<-hY];have hYe:Y = w5.setCells W.heap.size 0 ([.int .i64 qa,.int .i64 qb]):=hY;have hYB:Bw W Y:=by rw [hYe];exact da (MI _) _ _ _ hb55
         obtain ⟨A,hA⟩:=qF W.heap.size;have hYX:Y.heap[A]? = some (BH qa qb):=by rw [hYe,hA];exact dO ([.int .i64 qa,.int .i64 qb]) HZ5.out rfl
         have hAw:W.heap.size<=A:=by rw [hA];exact MI _
         rw [<-hA];clear hA hY hYe f0 f1 ff HZ5)
    all_goals
      have HR:Hid (Bw W Y/\Y.heap[A]? = some (BH qa qb)/\W.heap.size<=A):=⟨hYB,hYX,hAw⟩;clear hYB hYX hAw;revert HR;revert A Y;exact hK.out
  intro Y A HR;clear HSG HB01 HB02 HC;have HBY:Hid (Bw w Y):=HB0.out.trans (HR.out.1.mono HB0.out.size);have HZ:Hid (Y.heap[w.heap.size]? = some fJ):=(HR.out.1.block _ hwW).trans HA0.out;have HTY:Hid (Y.heap[B]? = some (gj (.slice ao n cap) vo vs dn cl c)):=(HR.out.1.block _ hBW).trans HT0.out;have HVY:Hid (cD S Y (.slice ao n cap) L):=HV.out.up HR.out.1;have hzl:=(MH.1 HZ.out).1;have hAl:=(MH.1 HR.out.2.1).1;have hAne:w.heap.size≠A:=by have:=HR.out.2.2;omega
  have HXA:Hid (Y.heap[A]? = some (BH qa qb)):=HR.out.2.1;clear HR HA0 HT0 HV HB
  by_cases h0:E = 0
  · subst h0
    obtain ⟨k,y,rfl,hky,hya⟩:=HIT.out rfl;obtain ⟨yk,hyk⟩:=qE y.i.kind;obtain ⟨yl,hyl⟩:=qE y.i.cH;obtain ⟨ys,hys⟩:=qE y.i.size;obtain ⟨yt,hyt⟩:=qE y.i.cF;have HQK:Hid ((yk,yl,ys,yt) = q4):=by
      have h:=HQ4.out;rw [MC rfl,hya,hyk,hyl,hys,hyt] at h;exact h
    have HC2:Hid (∀ V,Bw Y V->Calls Tryz.prog 154 #[.pointer (some ⟨B,0,none⟩),.agg #[.int .i64 (k:Int),.int .i64 qb]] V λe w'=>e = .returned (VA yk yl ys yt)/\Bw V w'):=λV h=>by
      rw [<-hyk,<-hyl,<-hys,<-hyt];exact pz _ vo vs dn cl c L B (k:Int) qb V ((h.block _ (MH.1 HTY.out).1).trans HTY.out) (HVY.out.up h) hky rfl
    have HSK:Hid (∀ V:World,V.heap[A]? = some (BH (k:Int) qb)->V.cell? ⟨A,0,none⟩ = some (.int .i64 (k:Int))/\V.cell? ⟨A,1,none⟩ = some (.int .i64 qb)):=λV h=>(cU h).1
    have HSA:Hid (∀ V:World,Bw Y V->V.cell? ⟨A,0,none⟩ = some (.int .i64 (k:Int))/\V.cell? ⟨A,1,none⟩ = some (.int .i64 qb)):=λV h=>by
      obtain ⟨⟨a0,a1⟩,_⟩:=cU HXA.out;exact ⟨cC a0 h,cC a1 h⟩
    clear hyk hyl hys hyt hya hky HIT HNO HQ4;go_wp2_with fail;obtain ⟨a0,a1⟩:=HSA.out Y (MJ _ _)
    go_region_with (go_at_call 154;refine (HC2.out _ (by first | exact MJ _ _ | exact cX (MJ _ _))).mono ?_;rintro e w7 ⟨rfl,hb7⟩;have hb77:Bw Y w7:=(by first | exact hb7 | exact dH hb7);have hz7:w7.heap[w.heap.size]? = some fJ:=(hb77.block _ hzl).trans HZ.out;obtain ⟨g0,g1,g2,g3,g4,g5,g6,g7,g8,g9⟩:=ev hz7;have gg:=dw hz7;have HB7:Hid (Bw w w7):=HBY.out.trans (hb77.mono HBY.out.size);obtain ⟨b0,b1⟩:=HSA.out w7 hb77;clear hb7 hz7 hb77)
    all_goals
      go_wp2
      (try simp only [Exit.inBlock,Exit.then])
      refine MK (v:=nr 0 (k:Int) qb yk yl ys yt ⟨#[]⟩ (.slice none 0 0) 0) ?_ rfl ⟨yk,yl,ys,yt,rfl,HQK.out,?_⟩
      · rw [cN rfl]
        go_simp
      · repeat (with_reducible refine MP ?_ (by simp) _)
        exact HB7.out
  · obtain ⟨rfl, rfl⟩ := HNO.out h0
    have HQK:Hid (((0:Int),(0:Int),(0:Int),(0:Int)) = q4):=by
      have h:=HQ4.out;rw [ME h0] at h;exact h
    have hz:(E != 0) = true:=by simpa using h0
    clear HIT HNO h0 HQ4;go_wp2_with fail;refine (eV E _).mono ?_;rintro e w7 ⟨rfl,hb7⟩;have HB7:Hid (Bw w w7):=HBY.out.trans (hb7.mono HBY.out.size);have HZ7:=qK hb7 HZ;obtain ⟨g0,g1,g2,g3,g4,g5,g6,g7,g8,g9⟩:=ev HZ7.out;have gg:=dw HZ7.out;clear hb7;go_wp2
    (try simp only [Exit.inBlock,Exit.then])
    refine MK (v:=nr E 0 0 0 0 0 0 ⟨#[]⟩ (.slice none 0 0) 0) ?_ rfl ⟨0,0,0,0,rfl,HQK.out,?_⟩
    · rw [cN rfl]
      go_simp
    · repeat (with_reducible refine MP ?_ (by simp) _)
      exact HB7.out
end
section
open ChangeShapes WideShapes ChangeAt RowKit Deep
theorem wa (v)(l)(w)(hv:ey EE w v l)(hl:l.length<=1099511627776) :
  Calls Tryz.prog 192 #[v] w λe w'=>∃ p n c,e=.returned (.slice p n c)/\At EE (λb=>w.1.size<=b) w' (.slice p n c) l/\Bw w w':=by
 have D:=hH hv;obtain⟨H,g,rfl,y,z⟩:=hv.open;clear hv;unfold maxLen at y;have u:=hH hl
 cases H with
 | none =>
  have G:l=[]:=by
   cases l with
   | nil=>rfl
   | cons x r =>
    obtain⟨b,I,h,-⟩:=z 0 x rfl
    cases h
  subst G;clear z D u hl y;have j:=λw'=>Lib.run_eql_slice_nil (P:=Tryz.prog) w' 60 116 none 0 g 0 0 Tryz.underlying60
  go_enter Tryz.func192,Tryz.ntmps192;go_wp2;go_ret;exact⟨_,_,_,rfl,.inl ⟨_,_,rfl,rfl⟩,MJ _ _⟩
 | some a =>
  obtain⟨J,K,A,B,C⟩:=NQ BW;have E:Hid (Row EE (w.alloc (.cells #[] 116)) w.1.size 116 (.slice (some ⟨w.1.size,0,none⟩) 0 0) []):=.inr ⟨w.1.size,0,#[],rfl,qn,MD _ _,MI _,by decide,by simp,by simp[fY.flat]⟩;have o:Hid (Bw w (w.alloc (.cells #[] 116))):=qG _ _;have q:=hH<|D.out.up o;clear z y hl;obtain⟨m,s⟩:=qE l.length;rw[s]at q |-;clear s;have j:=λw'=>Lib.run_eql_slice_nil (P:=Tryz.prog) w' 60 116 (some a) m g 0 0 Tryz.underlying60
  go_enter Tryz.func192,Tryz.ntmps192
  go_wp2_with (at_builtin;refine eF _ rfl _ _ 60 rfl EE (λ_=>True) w.1.size 116 J _ 40 Tryz.underlying60 K A B C rfl _ [] rfl E _ l rfl q (by have:=u.out;unfold maxLen;simp;omega) (by have:=u.out;simp;omega) qs ?_;intro L F f t i)
  have d:Hid (Row EE F w.1.size 116 L l/\Bw w F):=⟨by simpa using f,o.grown t qs (λk M=>(E.lt k M).1)⟩;clear f t i;obtain⟨N,O,Q,rfl⟩:=d.out.1.slice3;go_ret;exact⟨_,_,_,rfl,d.out.1.at,d.out.2⟩
namespace Fo
noncomputable def iS (l:List eA) (next c n:Int):Int:=if err l next = 0 then (if 0<=c/\(1<=n/\n<=64) then 0 else 1) else 4
noncomputable def sW (l:List eA) (next c n:Int):List eA:=if iS l next c n = 0/\0<=ri (past c) l then (l.drop (ri (past c) l).toNat).take n.toNat else []
theorem tv {l:List eA}{next c n e:Int}(h:iS l next c n=e)(he:e≠0):sW l next c n=[]:=by unfold sW;rw[ME (λk=>he (h.symm.trans k.1))]
theorem DQ {l:List eA}{next c n:Int}(h:ri (past c) l = -1):sW l next c n=[]:=by unfold sW;rw[ME (λk=>by rw[h]at k;omega)]
theorem Gp {l:List eA}{next c n:Int}{k:Nat}(h:iS l next c n=0)(hk:ri (past c) l=k):sW l next c n=(l.drop k).take n.toNat:=by
 unfold sW;rw[MC ⟨h,by rw[hk];omega⟩,hk];rfl
end Fo
theorem GY (v)(l)(next c n)(w)(hv:ey EE w v l)(hs:∀ x∈l,x.1.size<=maxLen) :
  Calls Tryz.prog 170 #[VD v next,.int .i64 c,.int .i64 n] w λe w'=>∃ p j q,e=.returned (.tuple #[.slice p j q,.int .i64 (Fo.iS l next c n)])/\At EE (λb=>w.1.size<=b) w' (.slice p j q) (Fo.sW l next c n)/\Bw w w':=by
 have aa:=hv;obtain⟨J,a,rfl,hm,Z⟩:=aa.open;clear aa;unfold maxLen at hm;obtain⟨m,S⟩:=qE l.length;rw[S]at hm hv |-;have P:=hH S;clear S;obtain⟨W,A⟩:=qF ((w.alloc (BD (.slice J m a) next)).alloc (.cells #[.int .i64 c] 3));have g:=hH<|show Bw w W by rw[A];exact (qG _ _).alloc qs _
 have D:W.cell? ⟨w.1.size,0,none⟩=some (.slice J m a):=by
  rw[A];exact (dh qs _ _).trans (jL w (.slice J m a) next).1
 have E:W.cell? ⟨w.1.size+1,0,none⟩=some (.int .i64 c):=by
  have hh:=MD (w.alloc (BD (.slice J m a) next)) (.cells #[.int .i64 c] 3);rw[<-A,show (w.alloc (BD (.slice J m a) next)).1.size=w.1.size+1 by simp]at hh;simp only[World.cell?,hh];rfl
 have F:=hH<|hv.up g;have Y:=hH hs;have ag:=hH hv;clear hv hs;rcases Fo.og l next with ⟨H,hr⟩ | ⟨H,-⟩
 ·have Q:=hH H
  by_cases c0:c<0
  ·have o:=hH<|show Fo.iS l next c n = 1 by unfold Fo.iS;rw[MC H,ME (λh=>by omega)]
   have r:Hid (Fo.sW l next c n=[]):=Fo.tv o qd;rw[o.out];clear H hr Z;go_enter Tryz.func170,Tryz.ntmps170;go_wp2_with fail;rw[<-A];refine (fR _ l next _ F Y).mono ?_;rintro e t ⟨rfl,d⟩;rw[Q.out];have f:=qJ g d;have L:=cC D d;have C:=cC E d;have s:=hH<|F.out.up d;clear d A D E;go_wp2
   go_ret2
   exact⟨none,0,0,rfl,by rw[r.out];exact .inl ⟨_,_,rfl,rfl⟩,f⟩
  by_cases n0:1<=n/\n<=64
  ·have G:=hH n0;have o:=hH<|show Fo.iS l next c n = 0 by unfold Fo.iS;rw[MC H,MC ⟨by omega,n0⟩]
   rw[o.out];rcases Fo.wZ (Fo.past c) l with ⟨T,-⟩ | ⟨k,x,T,U,-,-⟩
   ·have HT:Hid (Fo.ri (Fo.past c) l = -1):=T;have r:Hid (Fo.sW l next c n=[]):=Fo.DQ T;clear H hr Z T n0;go_enter Tryz.func170,Tryz.ntmps170;go_wp2_with fail;rw[<-A];refine (fR _ l next _ F Y).mono ?_;rintro e t ⟨rfl,d⟩;rw[Q.out];have f:=qJ g d;have L:=cC D d;have C:=cC E d;have s:=hH<|F.out.up d;clear d A D E;go_wp2_with fail;refine (eD _ _ _ _ G).mono ?_;rintro e V ⟨rfl,B⟩;obtain rfl:t=V:=B.symm;go_wp2_with fail;refine (index_past _ l c (w.1.size+1) _ s (iU C) C).mono ?_;rintro e X ⟨rfl,i⟩;rw[HT.out];have u:=qJ f i;clear i;go_wp2
    go_ret2
    exact⟨none,0,0,rfl,by rw[r.out];exact .inl ⟨_,_,rfl,rfl⟩,u⟩
   ·have HT:=hH T;have r:=hH<|Fo.Gp o T;have hk:=(qM U);rw[P.out]at hk;obtain⟨O,z,rfl,-,hB,-⟩:=Z k x U;have ab:=ag.out.Lk qo;unfold maxLen at ab;have ac:Hid (l.length<=1099511627776):=by
     have:=Fo.ew hr;have:=hr.1.2;show l.length<=1099511627776;omega
    have al:(k:Int)<(m:Int):=qo
    have am:(m:Int)<=(a:Int):=qo
    have N:¬ a=k:=qo
    have an:(0:Int)<=(k:Int):=qo
    have ap:=n0.1;have aj:=n0.2;have aq:m<=1099511627776:=by have:=ac.out;have:=P.out;omega
    have ar:IntKind.i64.wrap ((k:Int)+n)=(k:Int)+n:=by rw[IntKind.wrap_i64];omega
    have ad:Hid (((l.drop k).take n.toNat).length<=1099511627776):=by
     have:=ac.out;show ((l.drop k).take n.toNat).length<=1099511627776;simp;omega
    have ak:(0:Int)<=(k:Int)+n:=qo
    clear H hr Z T U n0
    by_cases hbig0:(k:Int)+n<=(m:Int)
    ·have af:¬ (m:Int)<(k:Int)+n:=qo
     clear hbig0;have I:Hid (∀ w',ey EE w' (.slice (some ⟨O,z,none⟩) m a) l->ey EE w' (.slice (some ⟨O,z+k*4,none⟩) (((k:Int)+n).toNat-k) (a-k)) ((l.drop k).take n.toNat)):=λw' h=>by
      have M:=h.cut (lo:=k) (hi:=((k:Int)+n).toNat) qo qo;rw[List.drop_take,show ((k:Int)+n).toNat-k=n.toNat by omega]at M;unfold sliced at M;rw[ME N]at M;simpa [WideShapes.add_plain,EE,show ((k:Int)+n).toNat-k=n.toNat by omega]using M
     have ah:(k:Int)+n<=(a:Int):=qo
     have ai:(k:Int)<=(k:Int)+n:=qo
     go_enter Tryz.func170,Tryz.ntmps170;go_wp2_with fail;rw[<-A];refine (fR _ l next _ F Y).mono ?_;rintro e t ⟨rfl,d⟩;rw[Q.out];have f:=qJ g d;have L:=cC D d;have C:=cC E d;have s:=hH<|F.out.up d;clear d A D E;go_wp2_with fail;refine (eD _ _ _ _ G).mono ?_;rintro e V ⟨rfl,B⟩;obtain rfl:t=V:=B.symm;go_wp2_with fail;refine (index_past _ l c (w.1.size+1) _ s (iU C) C).mono ?_;rintro e X ⟨rfl,i⟩;rw[HT.out];have u:=qJ f i;have f0:=cC L i;have R:=hH<|s.out.up i;clear i L C;go_wp2_with fail;refine (wa _ _ _ (I _ R) ad).mono ?_;rintro e w4 ⟨p4,n4,c4,rfl,h4,K⟩;have y:Hid (At EE (λb=>w.1.size<=b) w4 (.slice p4 n4 c4) ((l.drop k).take n.toNat)/\Bw w w4):=⟨h4.imp λb d _=>MS u.size d,u.trans (K.mono u.size)⟩;clear h4 K;go_wp2
     go_ret2
     exact⟨_,_,_,rfl,by rw[r.out];exact y.out.1,y.out.2⟩
    ·have af:(m:Int)<(k:Int)+n:=qo
     clear hbig0;have I:Hid (∀ w',ey EE w' (.slice (some ⟨O,z,none⟩) m a) l->ey EE w' (.slice (some ⟨O,z+k*4,none⟩) (m-k) (a-k)) ((l.drop k).take n.toNat)):=λw' h=>by
      have au:=P.out;have M:=h.cut (lo:=k) (hi:=m) qo qn;rw[List.drop_take,MY qt]at M;rw[MY qt];unfold sliced at M;rw[ME N]at M;simpa [WideShapes.add_plain,EE]using M
     go_enter Tryz.func170,Tryz.ntmps170;go_wp2_with fail;rw[<-A];refine (fR _ l next _ F Y).mono ?_;rintro e t ⟨rfl,d⟩;rw[Q.out];have f:=qJ g d;have L:=cC D d;have C:=cC E d;have s:=hH<|F.out.up d;clear d A D E;go_wp2_with fail;refine (eD _ _ _ _ G).mono ?_;rintro e V ⟨rfl,B⟩;obtain rfl:t=V:=B.symm;go_wp2_with fail;refine (index_past _ l c (w.1.size+1) _ s (iU C) C).mono ?_;rintro e X ⟨rfl,i⟩;rw[HT.out];have u:=qJ f i;have f0:=cC L i;have R:=hH<|s.out.up i;clear i L C;go_wp2_with fail;refine (wa _ _ _ (I _ R) ad).mono ?_;rintro e w4 ⟨p4,n4,c4,rfl,h4,K⟩;have y:Hid (At EE (λb=>w.1.size<=b) w4 (.slice p4 n4 c4) ((l.drop k).take n.toNat)/\Bw w w4):=⟨h4.imp λb d _=>MS u.size d,u.trans (K.mono u.size)⟩;clear h4 K;go_wp2
     go_ret2
     exact⟨_,_,_,rfl,by rw[r.out];exact y.out.1,y.out.2⟩
  ·have G:=hH n0;have o:=hH<|show Fo.iS l next c n = 1 by unfold Fo.iS;rw[MC H,ME (λh=>n0 h.2)]
   have r:=hH<|Fo.tv o qd;rw[o.out];clear H hr Z n0;go_enter Tryz.func170,Tryz.ntmps170;go_wp2_with fail;rw[<-A];refine (fR _ l next _ F Y).mono ?_;rintro e t ⟨rfl,d⟩;rw[Q.out];have f:=qJ g d;have L:=cC D d;have C:=cC E d;have s:=hH<|F.out.up d;clear d A D E;go_wp2_with fail;refine (il _ _ _ _ G).mono ?_;rintro e V ⟨rfl,B⟩;obtain rfl:t=V:=B.symm;go_wp2
   go_ret2
   exact⟨none,0,0,rfl,by rw[r.out];exact .inl ⟨_,_,rfl,rfl⟩,f⟩
 ·have Q:=hH H;have o:Hid (Fo.iS l next c n=4):=ME (by rw [H];decide)
  have r:=hH<|Fo.tv o qd;rw[o.out];clear H Z;go_enter Tryz.func170,Tryz.ntmps170;go_wp2_with fail;rw[<-A];refine (fR _ l next _ F Y).mono ?_;rintro e t ⟨rfl,d⟩;rw[Q.out];have f:=qJ g d;have L:=cC D d;have C:=cC E d;have s:=hH<|F.out.up d;clear d A D E;go_wp2
  go_ret2
  exact⟨none,0,0,rfl,by rw[r.out];exact .inl ⟨_,_,rfl,rfl⟩,f⟩
namespace Fo
def pre (l:List eA) (c:Int) (n:Nat) (k:Nat):List eA:=((l.take k).filter (past c)).take n
theorem rising {l:List eA}{next:Int}(h:fE l next):∀ (j i:Nat) x y,i < j->l[i]? = some x->l[j]? = some y->x.2.1 < y.2.1:=λj=>by
 induction j with
 | zero=>intro i x y c;omega
 | succ j ih =>
  intro i x y c d f;have b:=(MN.1 f).1;have a:l[j]?=some (l[j]'qo):=MF _;have g:=h.2.1 (j+1) b y f;rw[ld a]at g
  by_cases e:i=j
  ·subst e
   rw[d]at a
   cases a
   omega
  ·have := ih i x _ qo d a
   omega
end Fo
end
section
open ChangeShapes WideShapes ChangeAt RowKit Deep It
theorem Ba.below {w w':World}{b o B:Nat}{e:Sp.En}(h:Ba w b o e)(hb:Below B w w')(hB:b<B):Ba w' b o e :=
 ⟨(hb.cell (p:=⟨b,o,none⟩) hB).trans h.1,(hb.cell (p:=⟨b,o+1,none⟩) hB).trans h.2.1,(hb.cell (p:=⟨b,o+2,none⟩) hB).trans h.2.2.1,(hb.cell (p:=⟨b,o+3,none⟩) hB).trans h.2.2.2⟩
end
section
open It
theorem Sp.mj {L:List cL}(h:Sp.dW Sp.cZ L=0):Sp.cZ L=true:=by
 unfold Sp.dW at h;split at h
 ·assumption
 ·cases h
end
section
namespace Fo
def Me (next:Int) (x:eA):Prop:=Nm.ok x.1/\(1<=x.2.1/\x.2.1<=next)/\Ho x.2.2.1 x.2.2.2
theorem cG {l:List eA}{next:Int}:fE l next ↔ (0<=next/\next<=1099511627776)/\(∀ x∈l,Me next x)/\l.Pairwise (λa b=>a.2.1<b.2.1)/\apart l:=by
 constructor
 ·intro h
  refine⟨h.1,λx f=>?_,?_,h.2.2⟩
  ·obtain⟨i,c⟩ := M1.1 f
   have o:=(MN.1 c).1;have g:=h.2.1 i o x c;have w:=uB (k:=i) (λj n=>h.2.1 j (by omega)) (by omega) h.1.1;exact⟨g.1,⟨by omega,g.2.1.2⟩,g.2.2⟩
  ·rw[List.pairwise_iff_getElem]
   intro i j c n m;exact rising h j i _ _ m (MF c) (MF n)
 ·rintro ⟨s,t,u,v⟩
  refine⟨s,λi c x f=>?_,v⟩;have d:=t x (MG f);refine⟨d.1,⟨?_,d.2.1.2⟩,d.2.2⟩
  cases i with
  | zero =>
   have:=d.2.1.1;simpa [o4] using this
  | succ i =>
   have p:l[i]?=some (l[i]'qo):=MF _;rw[ld p];have q:=List.pairwise_iff_getElem.1 u i (i+1) qo c qo;have r:=(MN.1 f).2;rw[r]at q;omega
end Fo
end
section
open It
namespace Sp
theorem o9 {L:List cL}{p:Nat}{e:En}:e∈dy L p ↔ ∃ x,L[p]?=some x/\e∈x.cE:=by
 unfold dy
 cases h:L[p]? with
 | none=>simp
 | some x=>simp
end Sp
namespace Sp
theorem mc {L:List cL}{a b:Int}{k:Nat}{x:cL}(hf:cM L a b=0)(ha:a=k)(hx:L[k]?=some x):cY L a b=x:=by
 unfold cY;rw[MC hf,ha,show ((k:Int)).toNat=k by omega,hx];rfl
theorem Kx {L:List Rw}(h:cZ (pl L)=true):m6 L:=λx d e f=>by
 obtain⟨i,c⟩:=M1.1 d;have a:(pl L)[i]?=some x.i:=by rw[Nh,c];rfl
 have b:=((l4 h).inr i e (o9.2 ⟨x.i,a,f⟩)).2.2.1;exact MS b qd
end Sp
namespace Sp
theorem oD {L : List cL}{a b kind st : Int}{s : ByteArray}(h : p6 (dW cZ) L a b s kind st=0) :
  ∃ (kc : Nat) (xc : cL) (nn : Nat) (g : Int), cZ L=true ∧ a=kc ∧ L[kc]?=some xc ∧ xc.gen=b ∧ xc.kind=2 ∧ sL (dW cZ) L a b s kind st=((nn : Int), g) ∧ Fo.eM xc.cE xc.next s nn g=0 ∧ kc≠nn ∧ (∀ x, L[nn]?=some x → x.kind=0) ∧
   ∀ i,(vL (dW cZ) L a b s kind st)[i]?=if i=kc then some (filled xc (xc.cE++[(s,xc.next+1,(nn:Int),g)]) (xc.next+1) st) else if i=nn then some (fresh g kind st) else L[i]?:=by
 have H:=h;unfold p6 at h
 by_cases hl:dL (dW cZ) L a b s kind st=0
 ·rw[MC hl]at h
  obtain⟨⟨q,M⟩,r,t⟩:=mK hl
  by_cases hm:It.dL L kind st=0
  ·rw[MC hm]at h
   have J:=mj q;obtain⟨O,-,I,N,u⟩:=ss hm;obtain⟨kc,xc,v,d,w,z,A,B,C,-⟩:=jo t;have m:=mc C v d;have n:∃ nn:Nat,(next L).1=nn/\nn<=L.length/\∀ x,L[nn]?=some x->x.kind=0:=by
    rcases lg L with ⟨j,y,D,E,-,e⟩ | e
    ·exact⟨j,by rw[e],Nat.le_of_lt (MN.1 D).1,λx G=>by rw[G]at D;cases D;exact E⟩
    ·exact⟨L.length,by rw[e],qn,λx G=>by simp at G⟩
   obtain⟨nn,c,F,f⟩:=n;rw[A,B,u,c]at h;have k:kc≠nn:=by
    rintro rfl;have:=f xc d;omega
   refine⟨kc,xc,nn,(next L).2,J,v,d,w,z,?_,h,k,f,λi=>?_⟩
   ·unfold sL
    rw[MC H,u,<-c]
   ·have K : vL (dW cZ) L a b s kind st=(put L nn (fresh (next L).2 kind st)).set kc (filled xc (xc.cE++[(s,xc.next+1,(nn : Int),(next L).2)]) (xc.next+1) st) := by
     unfold vL;rw[MC H,m,N,u,c,v,show ((nn:Int)).toNat=nn by omega,show ((kc:Int)).toNat=kc by omega]
    have l:=vq (x:=fresh (next L).2 kind st) F;have o:(put L nn (fresh (next L).2 kind st))[kc]?=some xc:=by rw[l,ME k];exact d
    have p:=(MN.1 o).1;rw[K,Nz]
    by_cases hi:i=kc
    ·subst hi
     simp[p]
    ·rw[ME (λe => hi e.symm),ME hi]
     exact l i
  ·rw[ME hm]at h
   exact absurd h hm
 ·rw[ME hl]at h
  exact absurd h hl
end Sp
end
end Go.Proofs.YtiifhfmekbhlnaaGreat
namespace Go.Proofs.YtiifhfmekbhlnaaGreat
open ChangeShapes WideShapes ChangeAt RowKit Deep It
namespace Nf
def A1 (E:Int) (u v:Value):Value:=if E=0 then u else v
def KO (E:Int) (L:List cL) (no:Int) (q:Int × Int × Int × Int):Prop:=(E=0->q=((atR L no).kind,(atR L no).cH,(atR L no).size,(atR L no).cF))/\(E≠0->q=(0,0,0,0))
end Nf
abbrev cV (e a b k l s t:Int):List Value:=[.int .i64 e,.int .i64 a,.int .i64 b,.int .i64 k,.int .i64 l,.int .i64 s,.int .i64 t,.string ⟨#[]⟩,.slice none 0 0,.int .i64 0]
theorem df {S:Nat->Prop}{A:Nat}{v:Value}{L:List Rw}(hA:¬ S A):∀ (vs:List Value) (o:Nat) (w:World),cD S w v L->cD S (w.setCells A o vs) v L
 | [],_,_,h=>h
 | _::vs,o,_,h=>df hA vs (o+1) _ ⟨h.1.setCell hA _,λx hx=>(h.2 x hx).setCell hA _⟩
theorem Kk {L:List cL}{L':List Rw}{a b:Int}{s:ByteArray}{kind st:Int}(h:Sp.p6 (Sp.dW Sp.cZ) L a b s kind st=0)(hp:pl L'=Sp.vL (Sp.dW Sp.cZ) L a b s kind st):∃ (k:Nat) (y:Rw),(Sp.sL (Sp.dW Sp.cZ) L a b s kind st).1=(k:Int)/\L'[k]?=some y/\Nf.atR (pl L') (Sp.sL (Sp.dW Sp.cZ) L a b s kind st).1=y.i:=by
 obtain⟨o,p,c,g,-,-,-,-,-,l,-,d,-,m⟩:=Sp.oD h;have j:(pl L')[c]?=some (fresh g kind st):=by
  rw[hp,m,ME (λe=>d e.symm),MC rfl]
 obtain⟨y,n,f⟩:=Sp.fF j;refine⟨c,y,by rw[l],n,?_⟩;rw[l];unfold Nf.atR;show ((pl L')[((c:Int)).toNat]?).getD gU=y.i;rw[show ((c:Int)).toNat=c by omega,j,f];rfl
theorem Dc {L:List cL}{a b qa qb kind st:Int}{s:ByteArray}(h:Sp.p6 (Sp.dW Sp.cZ) L a b s kind st≠0)(hq:Sp.sL (Sp.dW Sp.cZ) L a b s kind st=(qa,qb)):qa=0/\qb=0:=by
 unfold Sp.sL at hq;rw[ME h]at hq;exact⟨(Ox Prod.fst hq).symm,(Ox Prod.snd hq).symm⟩
theorem wE {S : Nat → Prop}(vi vo vs : Value)(dn cl : Int)(c : fw)(L : List Rw)(B : Nat)(kind : Int)(w : World)(hB : w.1[B]?=some (gj vi vo vs dn cl c))(hv : cD S w vi L)(eE : Sp.m6 L)(hs : c.nm.size ≤ maxLen) :
    Calls Tryz.prog 156 #[.pointer (some ⟨B,0,none⟩),.int .i64 kind] w λe w'=>∃ (u:Value) (L':List Rw) (k l s t:Int),e=.returned (nr (Sp.p6 (Sp.dW Sp.cZ) (pl L) c.no c.gen c.nm kind dn) (Sp.sL (Sp.dW Sp.cZ) (pl L) c.no c.gen c.nm kind dn).1 (Sp.sL (Sp.dW Sp.cZ) (pl L) c.no c.gen c.nm kind dn).2 k l s t ⟨#[]⟩ (.slice none 0 0) 0)/\w'.1[B]?=some (gj (Nf.A1 (Sp.p6 (Sp.dW Sp.cZ) (pl L) c.no c.gen c.nm kind dn) u vi) vo vs dn cl c)/\cD (λb=>w.1.size<b) w' u L'/\pl L'=Sp.vL (Sp.dW Sp.cZ) (pl L) c.no c.gen c.nm kind dn/\Nf.KO (Sp.p6 (Sp.dW Sp.cZ) (pl L) c.no c.gen c.nm kind dn) (pl L') (Sp.sL (Sp.dW Sp.cZ) (pl L) c.no c.gen c.nm kind dn).1 (k,l,s,t)/\w.grownBy w' (some B):=by
  have aI:=(MH.1 hB).1;have HB:Hid (w.1[B]?=some (gj vi vo vs dn cl c)):=hB;obtain⟨W,hW⟩:=qF (w.alloc fJ);have P:Hid _:=qB hW;have ac:Hid _:=qC hW;have H:=hH<|(P.out.block _ aI).trans hB;have HV:Hid (cD S W vi L):=hv.up P.out;have ad:w.1.size<W.1.size:=(MH.1 ac.out).1;have aJ:B<W.1.size:=(MH.1 H.out).1;have aa:B≠w.1.size:=by omega
  obtain⟨t0,-,-,t3,-,-,t6,t7,-,-,aE,-,-,-,-⟩:=gh H.out;obtain⟨ao,z,rfl,-,-⟩:=hv.open;obtain⟨n,aF⟩:=qE L.length;rw[aF]at t0 HV H HB |-;have av:Hid (∀ V:World,Bw W V->V.cell? ⟨B,0,none⟩=some (.slice ao n z)/\V.cell? ⟨B,3,none⟩=some (.int .i64 dn)/\V.cell? ⟨B,6,none⟩=some (.int .i64 c.no)/\V.cell? ⟨B,7,none⟩=some (.int .i64 c.gen)/\V.cell? ⟨B,10,none⟩=some (.string c.nm)):=λV h=>⟨cC t0 h,cC t3 h,cC t6 h,cC t7 h,cC aE h⟩
  clear hv hB aF t0 t3 t6 t7 aE;obtain⟨E,hE⟩:=qE (Sp.p6 (Sp.dW Sp.cZ) (pl L) c.no c.gen c.nm kind dn);obtain⟨⟨G,r⟩,hq⟩:=qE (Sp.sL (Sp.dW Sp.cZ) (pl L) c.no c.gen c.nm kind dn);obtain⟨T,hT⟩:=qE (Sp.vL (Sp.dW Sp.cZ) (pl L) c.no c.gen c.nm kind dn);have af:Hid (∀ L':List Rw,E=0->pl L'=T->∃ (k:Nat) (y:Rw),G=(k:Int)/\L'[k]?=some y/\Nf.atR (pl L') G=y.i):=λL' h0 hp=>by
    have:=Kk (hE.trans h0) (hp.trans hT.symm);rw[hq]at this;exact this
  have ag:Hid (E≠0->G=0/\r=0):=λh0=>Dc (by rw[hE];exact h0) hq
  rw[hE,hq,hT];simp only;have HC:Hid (∀ V,Bw W V->Calls Tryz.prog 179 #[.slice ao n z,.agg #[.int .i64 c.no,.int .i64 c.gen],.string c.nm,.int .i64 kind,.int .i64 dn] V λe w'=>∃ p m q L',e=.returned (.tuple #[.slice p m q,.agg #[.int .i64 G,.int .i64 r],.int .i64 E])/\(cD (λb=>V.1.size<=b) w' (.slice p m q) L'/\pl L'=T)/\Bw V w'):=λV h=>by
    refine (EB jd eQ _ L c.no c.gen c.nm kind dn V (HV.out.up h) eE hs).mono ?_;rintro e w' ⟨u,L',h1,h2,h3,h4⟩;rw[hE,hq]at h1;rw[hT]at h3;obtain⟨p4,z4,hu,-,-⟩:=h2.open;subst hu;exact⟨p4,L'.length,z4,L',h1,⟨h2,h3⟩,h4⟩
  clear hE hq hT eE hs;go_enter Tryz.func156,Tryz.ntmps156;go_wp2_with fail;rw[<-hW];clear hW;have a:Hid (Bw W (W.alloc (BH 0 0))):=qG _ _;have C:Hid (Bw W (W.drew.alloc (BH 0 0))):=(cX (MJ _ _)).alloc (MI _) _;apply lM
  · intro hK
    go_region_held3 (λV=>V.cell? ⟨B,0,none⟩=some (.slice ao n z)/\V.cell? ⟨B,3,none⟩=some (.int .i64 dn)/\V.cell? ⟨B,6,none⟩=some (.int .i64 c.no)/\V.cell? ⟨B,7,none⟩=some (.int .i64 c.gen)/\V.cell? ⟨B,10,none⟩=some (.string c.nm)) (first | exact av.out _ (by (repeat (first | with_reducible assumption | with_reducible exact MJ _ _ | with_reducible refine cX ?_ | with_reducible refine MP ?_ (by first | exact MI _ | assumption) _ | with_reducible refine Nr ?_ (by first | exact MI _ | assumption) _)))) (first
      | (go_at_call 179;refine (HC.out _ (by first | exact MJ _ _ | exact cX (MJ _ _) | exact a.out | exact C.out | exact cX a.out)).mono ?_;rintro e N ⟨p,m,q,d,rfl,M,o⟩;have aw : Hid (pl d=T) := M.2;have D : Bw W N := (by first | exact o | exact dH o | exact C.out.trans (o.mono C.out.size) | exact a.out.trans ((dH o).mono a.out.size) | exact a.out.trans (o.mono a.out.size));have aK : W.1.size ≤ N.1.size := D.size;(first
        | (have I:N.1[W.1.size]?=some (BH 0 0):=(by first | exact (o.block _ (by simp)).trans (MD W.drew _) | exact (o.block _ (by show _<Array.size _;simp)).trans (MD W _));have f0:=cJ I 0;have f1:=cJ I 1;have ff:=dw I;have ax:=hH I;have Q:=hH<|M.1.imp (λb hb _=>by simp at hb;omega);clear M;clear I)
        | (have Q:=hH<|M.1.imp (λb hb _=>by first | exact hb | (simp at hb;omega));clear M));clear o))
    all_goals first
      | (obtain⟨Y,U⟩ : ∃ Y,Y=N.alloc (BH G r) := ⟨_,rfl⟩
         rw[<-U];have ah:Bw W Y:=by rw[U];exact D.alloc D.size _
         obtain⟨A,X⟩:=qF N.1.size;have ai:Y.1[A]?=some (BH G r):=by rw[U,X];exact MD _ _
         have aj:W.1.size<=A:=by rw[X];exact aK
         have ak:cD (λb=>w.1.size<b) Y (.slice p m q) d:=by rw[U];exact (Q.out.imp (λb hb _=>M6 ad hb)).up (qG _ _)
         rw[<-X];clear X U)
      | (obtain⟨Y,U⟩ : ∃ Y,Y=((N.setCell ⟨W.1.size,0,none⟩ (.int .i64 G)).setCell ⟨W.1.size,1,none⟩ (.int .i64 r)) := ⟨_,rfl⟩
         rw[<-U];have R:Y=N.setCells W.1.size 0 ([.int .i64 G,.int .i64 r]):=U;have ah:Bw W Y:=by rw[R];exact da (MI _) _ _ _ D
         obtain⟨A,X⟩:=qF W.1.size;have ai:Y.1[A]?=some (BH G r):=by rw[R,X];exact dO ([.int .i64 G,.int .i64 r]) ax.out rfl
         have aj:W.1.size<=A:=by rw[X];exact MI _
         have ak:cD (λb=>w.1.size<b) Y (.slice p m q) d:=by rw[R];exact (df (λh=>Nat.lt_irrefl _ h) _ _ _ Q.out).imp (λb hb _=>Nat.lt_trans ad hb)
         rw[<-X];clear X U R f0 f1 ff ax)
    all_goals
      have J:Hid (Bw W Y/\Y.1[A]?=some (BH G r)/\W.1.size<=A/\cD (λb=>w.1.size<b) Y (.slice p m q) d/\pl d=T):=⟨ah,ai,aj,ak,aw.out⟩;clear ah ai aj ak aw Q;revert J;revert A Y d q m p;exact hK.out
  intro p m q d Y A J;clear av a C HC;have al:=hH<|P.out.trans (J.out.1.mono P.out.size);have HZ:=hH<|(J.out.1.block _ ad).trans ac.out;have K:=hH<|(J.out.1.block _ aJ).trans H.out;have F:=hH J.out.2.2.2;have aS:=(MH.1 HZ.out).1;have aT:=(MH.1 J.out.2.1).1;have aR:w.1.size≠A:=by have:=J.out.2.2.1;omega
  have aL:A≠B:=by have:=J.out.2.2.1;omega
  have aM:=hH J.out.2.1;clear J ac H HV HB
  by_cases h0:E=0
  · subst h0
    obtain⟨k,y,rfl,aG,aH⟩:=af.out d rfl F.out.2;obtain⟨yk,ap⟩:=qE y.i.kind;obtain⟨yl,aq⟩:=qE y.i.cH;obtain⟨ys,ar⟩:=qE y.i.size;obtain⟨yt,au⟩:=qE y.i.cF;have aN:=hH<|show (yk,yl,ys,yt) = ((Nf.atR (pl d) (k:Int)).kind,(Nf.atR (pl d) (k:Int)).cH,(Nf.atR (pl d) (k:Int)).size,(Nf.atR (pl d) (k:Int)).cF) by
      rw[aH,ap,aq,ar,au]
    obtain⟨Z,hZ⟩:=qF (Y.setCell ⟨B,0,none⟩ (.slice p m q));have am:=hH<|show Z.heap[B]? = some (gj (.slice p m q) vo vs dn cl c) by rw[hZ];exact ij K.out 0 _
    have ay:=hH<|show cD (λb=>w.heap.size < b) Z (.slice p m q) d by rw[hZ];exact⟨F.out.1.1.setCell (by show ¬ w.1.size<B;omega) _,λx hx=>(F.out.1.2 x hx).setCell (by show ¬ w.1.size<B;omega) _⟩
    have az:=hH<|show Z.heap[w.heap.size]? = some fJ by rw[hZ];exact (MM _ _ _ _ (by show w.1.size≠B;omega)).trans HZ.out
    have aO:=hH<|show Z.heap[A]? = some (BH (k:Int) r) by rw[hZ];exact (MM _ _ _ _ (by show A≠B;exact aL)).trans aM.out
    have aP:=hH<|show w.grownBy Z (some B) by rw[hZ];exact eN (cP al.out _) (.inr rfl) _
    have aA:=(MH.1 az.out).1;have aB:=(MH.1 am.out).1;have aQ:Hid (∀ V,Bw Z V->Calls Tryz.prog 154 #[.pointer (some ⟨B,0,none⟩),.agg #[.int .i64 (k:Int),.int .i64 r]] V λe w'=>e=.returned (VA yk yl ys yt)/\Bw V w'):=λV h=>by
      rw[<-ap,<-aq,<-ar,<-au];exact pz _ vo vs dn cl c d B (k:Int) r V ((h.block _ aB).trans am.out) (ay.out.up h) aG rfl
    have aC:Hid (∀ V:World,Bw Z V->V.cell? ⟨A,0,none⟩=some (.int .i64 (k:Int))/\V.cell? ⟨A,1,none⟩=some (.int .i64 r)):=λV h=>by
      obtain⟨⟨a0,a1⟩,_⟩:=cU aO.out;exact⟨cC a0 h,cC a1 h⟩
    obtain⟨t0,-,-,-,-,-,-,-,-,-,-,-,-,-,-⟩:=gh K.out;have tf:=zP K.out 0;clear ap aq ar au aH aG af ag;go_wp2_with fail;rw[<-hZ];clear hZ t0 tf;obtain⟨a0,a1⟩:=aC.out Z (MJ _ _)
    go_region_with (go_at_call 154;refine (aQ.out _ (by first | exact MJ _ _ | exact cX (MJ _ _))).mono ?_;rintro e O ⟨rfl,j⟩;have f:Bw Z O:=(by first | exact j | exact dH j);have an:O.1[w.1.size]?=some fJ:=(f.block _ aA).trans az.out;obtain⟨g0,g1,g2,g3,g4,g5,g6,g7,g8,g9⟩:=ev an;have gg:=dw an;have g:Hid (w.grownBy O (some B)/\O.1[B]?=some (gj (.slice p m q) vo vs dn cl c)/\cD (λb=>w.1.size<b) O (.slice p m q) d):=⟨wN aP.out f,(f.block _ aB).trans am.out,ay.out.up f⟩;obtain⟨b0,b1⟩:=aC.out O f;clear j an f)
    all_goals
      go_wp2
      refine MK (v:=nr 0 (k:Int) r yk yl ys yt ⟨#[]⟩ (.slice none 0 0) 0) ?_ rfl ⟨.slice p m q,d,yk,yl,ys,yt,rfl,?_,?_,F.out.2,⟨λ_=>aN.out,λh=>absurd rfl h⟩,?_⟩
      · rw[cN rfl]
        go_simp
      · repeat (with_reducible refine (MM _ _ _ _ (show B≠w.1.size from aa)).trans ?_)
        exact g.out.2.1
      · exact df (A:=w.1.size) (S:=λb=>w.1.size<b) (by simp) (cV 0 (k:Int) r yk yl ys yt) 0 _ g.out.2.2
      · repeat (with_reducible refine eN ?_ (.inl (by simp)) _)
        exact g.out.1
  · obtain⟨rfl,rfl⟩ := ag.out h0
    have hz:(E != 0)=true:=by simpa using h0
    have HE:=hH h0;clear af ag;go_wp2_with fail;refine (eV E _).mono ?_;rintro e O ⟨rfl,j⟩;have g:Hid (w.grownBy O (some B)/\O.1[B]?=some (gj (.slice ao n z) vo vs dn cl c)/\cD (λb=>w.1.size<b) O (.slice p m q) d):=⟨cP (al.out.trans (j.mono al.out.size)) _,(j.block _ (MH.1 K.out).1).trans K.out,F.out.1.up j⟩;have aD:=qK j HZ;obtain⟨g0,g1,g2,g3,g4,g5,g6,g7,g8,g9⟩:=ev aD.out;have gg:=dw aD.out;clear j;go_wp2
    refine MK (v:=nr E 0 0 0 0 0 0 ⟨#[]⟩ (.slice none 0 0) 0) ?_ rfl ⟨.slice p m q,d,0,0,0,0,rfl,?_,?_,F.out.2,⟨λh=>absurd h HE.out,λ_=>rfl⟩,?_⟩
    · rw[cN rfl]
      go_simp
    · repeat (with_reducible refine (MM _ _ _ _ (show B≠w.1.size from aa)).trans ?_)
      have ab:Nf.A1 E (.slice p m q) (.slice ao n z)=.slice ao n z:=ME HE.out
      first | (rw[ab];exact g.out.2.1) | exact g.out.2.1 | (simp only[ab];exact g.out.2.1)
    · exact df (A:=w.1.size) (S:=λb=>w.1.size<b) (by simp) (cV E 0 0 0 0 0 0) 0 _ g.out.2.2
    · repeat (with_reducible refine eN ?_ (.inl (by simp)) _)
      exact g.out.1
theorem dB {α:Type}{E:fY α}{S:Nat->Prop}{A:Nat}{v:Value}{l:List α}(hA:¬ S A):∀ (vs:List Value) (o:Nat) (w:World),At E S w v l->At E S (w.setCells A o vs) v l
 | [],_,_,h=>h
 | _::vs,o,_,h=>dB hA vs (o+1) _ (h.setCell hA _)
namespace Nf
def EU (n:Int):Int:=min (max n 1) 64
noncomputable def LH (L:List cL) (c:fw):Int:=if gK L c.no c.gen 2 404=0 then Fo.iS (cY L c.no c.gen).cE (cY L c.no c.gen).next c.pl (EU c.n) else gK L c.no c.gen 2 404
noncomputable def JR (L:List cL) (c:fw):List eA:=if gK L c.no c.gen 2 404=0 then Fo.sW (cY L c.no c.gen).cE (cY L c.no c.gen).next c.pl (EU c.n) else []
end Nf
theorem DX {S : Nat → Prop}(vi vo vs : Value)(dn cl : Int)(c : fw)(L : List Rw)(B : Nat)(w : World)(hB : w.1[B]?=some (gj vi vo vs dn cl c))(hv : cD S w vi L)(eE : Sp.m6 L) :
  Calls Tryz.prog 139 #[.pointer (some ⟨B,0,none⟩)] w λe w'=>∃ p j q,e=.returned (nr (Nf.LH (pl L) c) 0 0 0 0 0 0 ⟨#[]⟩ (.slice p j q) 0)/\At EE (λb=>w.1.size<b) w' (.slice p j q) (Nf.JR (pl L) c)/\Bw w w':=by
 have ai:=(MH.1 hB).1;obtain⟨W,hW⟩:=qF (w.alloc fJ);have o:Hid _:=qB hW;have z:Hid _:=qC hW;have r:=qK o hB;have HV:=hH<|hv.up o.out;have au:w.1.size<W.1.size:=(MH.1 z.out).1;have av:B<W.1.size:=(MH.1 r.out).1;obtain⟨E,l⟩:=qE (Nf.LH (pl L) c);obtain⟨D,m⟩:=qE (Nf.JR (pl L) c);rw[l,m];unfold Nf.LH at l;unfold Nf.JR at m;obtain⟨P,J⟩:=qE (Nf.gK (pl L) c.no c.gen 2 404);have HF:=hH J;rw[J]at l m;have aj:=hH eE;clear hv hB J eE;go_enter Tryz.func139,Tryz.ntmps139;go_wp2_with fail;rw[<-hW];clear hW;refine (wi vi vo vs dn cl c L B 2 404 W r.out HV.out (by decide)).mono ?_;rintro e g ⟨x,rfl,K,af,k⟩;rw[HF.out]at K |-;obtain⟨Y,M⟩:=qF (g.alloc (jC x));have C:Bw g Y:=by rw[M];exact qG _ _
 have s:Bw W Y:=k.trans (C.mono k.size);have t:=qJ o s;have HZ:=qK s z;have R:=qK s r;have F:Hid _:=qC M;have HG:=hH<|(af.imp (λ_ _ _=>trivial)).up C;have G:=hH K;have aw:=(MH.1 HZ.out).1;have ax:=(MH.1 F.out).1;have ay:w.1.size≠g.1.size:=by have:=k.size;omega
 have aq:w.1.size<g.1.size:=by have:=k.size;omega
 clear k C s af K z r HV
 by_cases h0:P=0
 ·rw[MC h0]at l m
  have u:=G.out;rw[MC h0]at u;subst h0;rw[<-u]at l m;obtain⟨Q,N⟩:=qE (Nf.EU c.n);rw[N]at l m;obtain⟨Z,hZ⟩:=qF (Y.alloc (BD (.slice x.ep x.en x.ec) x.i.next));have T:Bw Y Z:=by rw[hZ];exact qG _ _
  have U:=qJ t T;have X:Y.1.size=g.1.size+1:=by rw[M];simp
  have aa:=hH<|show Z.heap[g.heap.size + 1]? = some (BD (.slice x.ep x.en x.ec) x.i.next) by rw[<-X,hZ];exact MD _ _
  have ak:=qK T R;have ab:=qK T HZ;have ar:=(MH.1 ab.out).1;have al:=hH<|show ∀ y∈x.i.cE,y.1.size<=maxLen by
   rw[u];exact Sp.AR aj.out _ _
  have HC:Hid (∀ V,Bw Z V->Calls Tryz.prog 170 #[VD (.slice x.ep x.en x.ec) x.i.next,.int .i64 c.pl,.int .i64 Q] V λe w'=>∃ p j q,e=.returned (.tuple #[.slice p j q,.int .i64 E])/\At EE (λb=>w.1.size<b) w' (.slice p j q) D/\Bw V w'):=λV h=>by
   refine (GY (.slice x.ep x.en x.ec) x.i.cE x.i.next c.pl Q V ((HG.out.up T).up h).2.1.wide al.out).mono ?_;rintro e w' ⟨p,j,q,h1,h2,h3⟩;rw[l]at h1;rw[m]at h2;exact⟨p,j,q,h1,h2.imp (λb hb _=>by have h4:=h.size;omega),h3⟩
  have ac:Hid (∀ V:World,Bw Z V->V.cell? ⟨g.1.size+1,0,none⟩=some (.slice x.ep x.en x.ec)/\V.cell? ⟨g.1.size+1,1,none⟩=some (.int .i64 x.i.next)/\V.cell? ⟨B,12,none⟩=some (.int .i64 c.pl)/\V.cell? ⟨B,13,none⟩=some (.int .i64 c.n)):=λV h=>by
   obtain⟨-,-,-,-,-,-,-,-,-,-,-,-,an,ao,-⟩:=gh ak.out;have k0:=cJ aa.out 0;have k1:=cJ aa.out 1;simp at k0 k1;exact⟨cC k0 h,cC k1 h,cC an h,cC ao h⟩
  have ad:Hid ((if 64<(if c.n<1 then 1 else c.n) then 64 else (if c.n<1 then 1 else c.n))=Q):=by
   show _=_;rw[<-N];unfold Nf.EU;split <;> split <;> omega
  have k6:=cJ F.out 6;have k7:=cJ F.out 7;simp at k6 k7;clear l m u G N T;have H:(c.n<1/\Q=1)\/(¬ c.n<1/\64<c.n/\Q=64)\/(¬ c.n<1/\¬ 64<c.n/\Q=c.n):=by
   have h:=ad.out;split at h <;> split at h <;> omega
  rcases H with ⟨ag,O⟩ | ⟨ag,ap,O⟩ | ⟨ag,ap,O⟩
  all_goals
   subst O;go_wp2_with fail;rw[<-M,<-hZ];clear M hZ k6 k7 X
   go_region_held3 (λV=>V.cell? ⟨g.1.size+1,0,none⟩=some (.slice x.ep x.en x.ec)/\V.cell? ⟨g.1.size+1,1,none⟩=some (.int .i64 x.i.next)/\V.cell? ⟨B,12,none⟩=some (.int .i64 c.pl)/\V.cell? ⟨B,13,none⟩=some (.int .i64 c.n)) (first | (refine ac.out _ ?_;(repeat (first | with_reducible assumption | with_reducible exact MJ _ _ | with_reducible refine cX ?_));done)) (first
    | (go_at_call 170;(try rw[ad.out]);refine (HC.out _ (by first | exact MJ _ _ | exact cX (MJ _ _))).mono ?_;rintro e w7 ⟨p,j,q,rfl,ah,a⟩;have d:Bw Z w7:=(by first | exact a | exact dH a);clear a))
   all_goals
    have I:=qJ U d;have am:=hH ah;have f:=qK d ab;obtain⟨g0,g1,g2,g3,g4,g5,g6,g7,g8,g9⟩:=ev f.out;have gg:=dw f.out;clear d HC ac ah;go_wp2
    refine MK (v:=nr E 0 0 0 0 0 0 ⟨#[]⟩ (.slice p j q) 0) ?_ rfl ⟨p,j,q,rfl,?_,?_⟩
    ·rw[cN rfl]
     go_simp
    ·exact (dB (A:=w.1.size) (S:=λb=>w.1.size<b) (by simp) [.int .i64 E,.int .i64 0,.int .i64 0,.int .i64 0,.int .i64 0,.int .i64 0,.int .i64 0,.string ⟨#[]⟩,.slice p j q,.int .i64 0] 0 _ am.out)
    ·repeat (with_reducible refine MP ?_ (by simp) _)
     exact I.out
 ·rw[ME h0]at l m
  subst l;subst m;have hz:(P != 0)=true:=by simpa using h0
  clear G h0;go_wp2_with fail;rw[<-M];clear M;refine (eV P _).mono ?_;rintro e w7 ⟨rfl,a⟩;have I:=qJ t a;have f:=qK a HZ;obtain⟨g0,g1,g2,g3,g4,g5,g6,g7,g8,g9⟩:=ev f.out;have gg:=dw f.out;clear a;go_wp2
  refine MK (v:=nr P 0 0 0 0 0 0 ⟨#[]⟩ (.slice none 0 0) 0) ?_ rfl ⟨none,0,0,rfl,At.nil,?_⟩
  ·rw[cN rfl]
   go_simp
  ·repeat (with_reducible refine MP ?_ (by simp) _)
   exact I.out
end Go.Proofs.YtiifhfmekbhlnaaGreat
namespace Go.Proofs.YtiifhfmekbhlnaaGreat.Os
open ChangeShapes WideShapes ChangeAt RowKit Deep
theorem kS {P:Program}{w w':World}{ops:Array Oper}{rest:List Oper}{o:Oper}{a:Act}{Q:Exit->Act->World->Prop}(hgd:o.guard=none)(s x:Operand)(t tn:TypeId)(ho:o.op=.call { callee:=.builtin .append,args:=#[s,x],argTypes:=#[t,tn] }){v xv v':Value}(hv:a.eval s=v)(hxv:a.eval x=xv)(hr:∀ ty,(Builtin.append_ #[t,tn] ty #[v,xv]).run P w=.ok v' w')(h:wpList P ops Q rest (a.put o.dst v') w'):wpList P ops Q (o::rest) a w :=
 OF hgd λ_ b=>by
  unfold Oper.wp execOp;simp only[ho,resolve,invoke,builtin,Sem.run_bind,Sem.run_pure,Result.andThen_ok,List.map_toArray,List.map_cons,List.map_nil,hv,hxv,hr];exact b _ _ h
theorem nG (n:Nat)(hn:n<=4398046511104) (w:World):Calls Tryz.prog 211 #[.slice none 0 0,.int .i64 n] w λe w'=>∃ v,e=.returned v/\Row EO w' w.heap.size 90 v []/\Bw w w':=by
 by_cases h0:n=0
 ·subst h0
  go_enter Tryz.func211,Tryz.ntmps211;go_wp2;go_ret;exact⟨_,rfl,Row.nil _ _ _ _,MJ _ _⟩
 ·obtain⟨p, m, g, h, i⟩ := NQ C0
  have a:=λl=>Lib.run_append_nil_zeros (P:=Tryz.prog) w 26 3 l 90 p _ .i64 .i64 Tryz.underlying26 Tryz.underlying3 m g n (by omega) (by rw[h];decide) (by omega) (by rw[i];omega)
  have j:=grownCap_ge w n 0 90;have c:grownCap w n 0 90<=maxLen:=grownCap_le_maxLen w n 0 90 (by unfold maxLen;omega);have b:(Builtin.zeroCells (Value.agg #[.int .i64 0,.int .i64 0,.int .i64 0,.int .i64 0]).cells n++Builtin.zeroCells (Value.agg #[.int .i64 0,.int .i64 0,.int .i64 0,.int .i64 0]).cells (grownCap w n 0 90-n)).size=grownCap w n 0 90*4:=by
   rw[Array.size_append,OW,OW,show (Value.agg #[.int .i64 0,.int .i64 0,.int .i64 0,.int .i64 0]).cells.size=4 from rfl];omega
  generalize (Builtin.zeroCells (Value.agg #[.int .i64 0,.int .i64 0,.int .i64 0,.int .i64 0]).cells n++Builtin.zeroCells (Value.agg #[.int .i64 0,.int .i64 0,.int .i64 0,.int .i64 0]).cells (grownCap w n 0 90-n))=cur at a b;generalize grownCap w n 0 90=C at a j c b;have o:0<(n:Int):=by omega
  have d:Hid (Row EO (w.drew.alloc (.cells cur 90)) w.1.size 90 (.slice (some ⟨w.1.size,0,none⟩) 0 C) []):=.inr ⟨w.1.size,C,cur,rfl,qn,MD w.drew _,MV _,c,by rw[b];exact qn,by simp[fY.flat]⟩;unfold maxLen at c;have f:=hH a;clear m g h i h0 b a;go_enter Tryz.func211,Tryz.ntmps211
  go_wp2_with (at_builtin;refine kS rfl _ _ 26 3 rfl rfl rfl f ?_)
  go_ret;exact⟨_,rfl,d,⟨rfl,rfl,rfl,qs,λk q=>ML w.drew _ k q⟩⟩
theorem dG {w w':World}{b j:Nat}{v:Value}(h:w.cell? ⟨b,j,none⟩=some v)(hb:Bw w w')(hl:b<w.1.size):w'.cell? ⟨b,j,none⟩=some v:=(hb.cell (p:=⟨b,j,none⟩) hl).trans h
theorem mV (g)(v1 v2 v3)(l1 l2 l3)(w)(hg:g<w.1.size)(c0:w.cell? ⟨g,0,none⟩=some v1)(c1:w.cell? ⟨g,1,none⟩=some v2)(c2:w.cell? ⟨g,2,none⟩=some v3)(h1:ey EO w v1 l1)(h2:ey EO w v2 l2)(h3:ey EO w v3 l3)(hl:l1.length+l2.length+l3.length<=2199023255552) :
  Calls Tryz.prog 195 #[.slice (some ⟨g,0,none⟩) 3 3] w λe w'=>∃ u,e=.returned u/\Row EO w' w.1.size 90 u (l1++l2++l3)/\Bw w w':=by
 have J:=hH<|h1.imp λb _ G=>G
 have X:=hH<|h2.imp λb _ G=>G
 have Y:=hH<|h3.imp λb _ G=>G
 obtain⟨a1,q1,rfl,-,-⟩:=h1.open;obtain⟨a2,q2,rfl,-,-⟩:=h2.open;obtain⟨a3,q3,rfl,-,-⟩:=h3.open;clear h1 h2 h3;obtain⟨z,j⟩:=qE l1.length;obtain⟨A,l⟩:=qE l2.length;obtain⟨B,m⟩:=qE l3.length;rw[j,l,m]at hl;rw[j]at c0 J;rw[l]at c1 X;rw[m]at c2 Y;have t:Hid (l1.length=z/\l2.length=A/\l3.length=B):=⟨j,l,m⟩;clear j l m;obtain⟨T,U,n,o,p⟩:=NQ C0;go_enter Tryz.func195,Tryz.ntmps195;go_wp2;refine OV 4 ?_;rw[NR];go_wp2;rw[NR];go_wp2;rw[NR];go_wp2;rw[NR];go_wp2_with fail;rw[show (z:Int)+(A:Int)+(B:Int)=((z+A+B:Nat):Int) by omega];refine (nG (z+A+B) qo _).mono ?_;rintro e V ⟨u1,rfl,C,a⟩;have K:=hH a;have v:=hH C;have d0:=dG c0 a hg;have L:=hH<|J.out.up a;have M:=a.size;clear a C J;go_wp2;refine OV 4 ?_;rw[NR]
 go_wp2_with (at_builtin;refine eF _ rfl _ _ 26 rfl EO (λb=>b<w.1.size) w.1.size 90 T _ 32 Tryz.underlying26 U n o p rfl _ [] rfl v _ l1 rfl L (by have:=t.out;unfold maxLen;simp only[List.length_nil];omega) (by have:=t.out;simp only[List.length_nil];omega) qo ?_;intro Z I c D q)
 have h:=hH<|K.out.grown D M (λk H=>(v.lt k H).1);have x:=hH<|show Row EO I w.heap.size 90 Z l1 by simpa using c
 have d1:=dG c1 h hg;have N:=hH<|X.out.up h;have O:=h.out.size;clear c D q d0;rw[NR]
 go_wp2_with (at_builtin;refine eF _ rfl _ _ 26 rfl EO (λb=>b<w.1.size) w.1.size 90 T _ 32 Tryz.underlying26 U n o p rfl _ l1 rfl x _ l2 rfl N (by have:=t.out;unfold maxLen;omega) (by have:=t.out;omega) qo ?_;intro v8 W d E r)
 have i:=hH<|h.out.grown E O (λk H=>(x.lt k H).1);have y:=hH d;have d2:=dG c2 i hg;have P:=hH<|Y.out.up i;have Q:=i.out.size;clear d E r d1;rw[NR]
 go_wp2_with (at_builtin;refine eF _ rfl _ _ 26 rfl EO (λb=>b<w.1.size) w.1.size 90 T _ 32 Tryz.underlying26 U n o p rfl _ (l1++l2) rfl y _ l3 rfl P (by have:=t.out;unfold maxLen;rw[MW];omega) (by have:=t.out;rw[MW];omega) qo ?_;intro v9 w9 f F s)
 have R:=hH<|i.out.grown F Q (λk H=>(y.lt k H).1);have S:=hH f;clear f F s;rw[NR];go_wp2;go_ret;exact⟨_,rfl,S,R⟩
end Go.Proofs.YtiifhfmekbhlnaaGreat.Os
