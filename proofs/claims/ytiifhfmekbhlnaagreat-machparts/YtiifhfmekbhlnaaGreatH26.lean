/- Part 26. -/
import Derived.Lib.SmallJoins
import Derived.SizedLaws
import Derived.ChangeMaps5
import Derived.Test.YtiifhfmekbhlnaaGreatH25
set_option maxHeartbeats 8000000
set_option maxRecDepth 100000
set_option linter.unusedSimpArgs false
namespace Go.Proofs.YtiifhfmekbhlnaaGreat
open ChangeShapes WideShapes ChangeAt RowKit Deep It
theorem nc {H:Type}{P:Program}{e:TypeId}{n:Nat}:∀ {ds:List (DataW H)} {d:DataW H},d∈ds->n∈d.weights P e->n∈DataW.weightsAll P e ds
 | d0::ds,d,hd,hn => by
  simp only[DataW.weightsAll,List.mem_append];rcases Ni.1 hd with rfl | hd
  ·exact .inl hn
  ·exact .inr (nc hd hn)
 | [],_,hd,_=>by cases hd
end Go.Proofs.YtiifhfmekbhlnaaGreat
namespace Go.Proofs.YtiifhfmekbhlnaaGreat
namespace Law
open ChangeShapes WideShapes ChangeAt RowKit
theorem oU {H:Type}{enc:TypeId × Value->H}{P:Program}{W W':World}(hl:laidOutB P=true)(hb:Bw W W') :
  ∀ (ts : List TypeId) (vs : List Value) (ds : List (DataW H)) (p : List MemPlace),(∀ t ∈ ts,P.readableRec t=true ∧ t<P.types.size) → (∀ x ∈ p,x.block<W.1.size) →
   DataW.TrodAll enc P W 0 (λ_=>true) true ts vs ds p->DataW.TrodAll enc P W' 0 (λb=>decide (b<W.1.size)) true ts vs ds p
 | [],[],[],_,_,_,h=>h
 | t::ts,v::vs,d::ds,p,hts,hlt,h => by
  obtain⟨p0,q,h0,hq,rfl⟩:=h;have ht:=hts t qs;exact⟨p0,q,Below.trod hl ht.1 ht.2 h0 hb (λx hx=>hlt x (by simp[hx])),oU hl hb ts vs ds q (λu hu=>hts u (by simp[hu])) (λx hx=>hlt x (by simp[hx])) hq,rfl⟩
theorem post {H:Type}{enc:TypeId × Value->H}{P:Program}{f:Func}{s:ChangeSpec}{tb:TypeId}{W W':World}{args:Array Value}{ds gs:List (DataW H)}{before:List MemPlace}(hl:laidOutB P=true)(hts:f.params.toList.all (λt=>P.readableRec t&&decide (t<P.types.size))=true)(hrt:f.resultTypes=#[tb])(hub:P.underlying tb=some .bool)(hW:DataW.Whole enc P f.params.toList s.vars false W args.toList ds gs before)(hv:s.vars=[])(hspec:s.fn H (ds++gs) = { results:=[.lit (.bool true)],args:=ds })(hb:Bw W W') :
  s.post enc P f false true false false W args (.bool true) W':=by
 have a:=hW;obtain⟨p,q,d,c,rfl,g,i⟩:=hW;rw[hv]at c;obtain⟨rfl,rfl⟩:=trodVars_none c;have b:∀ x∈p,x.block<W.1.size:=λx j=>by simpa using a.lt x (by simpa using j)
 refine⟨ds,[],p++[],[],p,[],a,?_,?_,?_,hb.frame _,λh=>by cases h⟩
 ·rw[hspec,hrt]
  exact trodAll_mk1 (shut_bool hub _)
 ·rw[hspec]
  refine oU hl hb _ _ _ _ (λt k=>?_) b d;have:=Ok.1 hts t k;simpa using this
 ·rw[hspec,hv]
  rfl
end Law
theorem AA {H:Type}{enc:TypeId × Value->H}{w:World}{n:Nat}{cs:List Value}{d:DataW H}{pl:List MemPlace}(hl:cs.length=4)(h:DataW.trod enc Tryz.prog w 0 (λ_=>true) true n 32 cs=some (d,pl)):∃ x:Int × Int × Int × ByteArray,cs=tR.cells x/\∃ y0 y1 y2,d=.agg [y0,y1,y2,.lit (.string x.2.2.2.data.toList)]:=by
 obtain⟨o,m,_,k,_,l,i⟩:=DataW.trod_struct Tryz.underlying32 h
 match cs,hl with
 | [c0,c1,c2,c3],_ =>
  have a:=i 0 _ rfl;have b:=i 1 _ rfl;have f:=i 2 _ rfl;have g:=i 3 _ rfl;have j:o.length=4:=by rw[l];rfl
  match o,j with
  | [y0,y1,y2,y3],_ =>
   simp only[List.getElem_toArray,List.getElem_cons_zero,List.getElem_cons_succ]at a b f g;simp only[show Tryz.prog.cellsOf 9=1 from by kernel_rfl,show Tryz.prog.cellsOf 3=1 from by kernel_rfl]at a b f g;simp at a b f g;obtain⟨v,p,_,_⟩:=DataW.trod_int Tryz.underlying3 a;obtain⟨c,q,_,_⟩:=DataW.trod_int Tryz.underlying3 b;obtain⟨r,t,_,_⟩:=DataW.trod_int Tryz.underlying3 f;obtain⟨s,u,z,_⟩:=DataW.trod_string Tryz.underlying9 g;simp only[List.cons.injEq,and_true]at p q t u;subst p;subst q;subst t;subst u;refine⟨(v,c,r,s),rfl,y0.1,y1.1,y2.1,?_⟩;have y:=(Prod.mk.inj k).1;rw[y];simp[z]
theorem mI {H:Type}{enc:TypeId × Value->H}{w:World}{v:Value}{d:DataW H}{p:List MemPlace}(hv:∃ a len cap,v=.slice a len cap)(h:DataW.Trod enc Tryz.prog w 0 (λ_=>true) true 22 v d p)(hwt:∀ n∈d.weights Tryz.prog 22,n<=reachBytes):∃ l:List (Int × Int × Int × ByteArray),ey tR w v l/\∀ x∈l,x.2.2.2.size<=140737488355328:=by
 obtain⟨a,len,cap,rfl⟩:=hv;obtain⟨c,q⟩:=h;have:Inhabited (Int × Int × Int × ByteArray):=⟨(0,0,0,.empty)⟩;obtain⟨l,r,s⟩:=FE tR Tryz.underlying22 qk qd (Q:=λx d=>∃ g k m,d=.agg [g,k,m,.lit (.string x.2.2.2.data.toList)]) (λn E d F A h=>AA A h) (by simpa [Value.cells]using q);refine⟨l,r,λx o=>?_⟩;rcases s with⟨_,rfl⟩ | ⟨B,C,f,_,u⟩
 ·cases o
 ·obtain⟨i,y⟩:=M1.1 o;obtain⟨D,b,g,k,m,z⟩:=u i x y;have:=hwt x.2.2.2.size (by
   simp only at f;rw[f];simp only[DataW.weights,Tryz.underlying22,List.mem_cons,List.mem_append];right;left;refine nc (MG b) ?_;rw[z];simp only[DataW.weights,Tryz.underlying32];exact DataW.weights_mem_each (j:=3) (t:=9) (d:=.lit (.string x.2.2.2.data.toList)) rfl rfl _ (by simp[DataW.weights]))
  unfold reachBytes at this;omega
structure Mc.LV (X T:Sh.iF) (E:Int) (cl rq:Int) (rs c:ByteArray):Prop where
 wh:Mc.wh T = true
 dn:T.dn<=X.dn + 1
 lo:-1000<=rq/\rq<=1099511627776
 kn:Mc.GN T cl rq = true->Mc.Iw T cl rq = rs/\Mc.eP T cl rq = 0/\Mc.kI T cl rq c = rs/\Mc.j8 T cl rq c = T
 past:Mc.GN T cl rq = true->1 < rq->Mc.eP T cl (rq - 1) = 0/\Mc.j8 T cl (rq - 1) c = T
theorem Mc.LY {x:Sh.iF}{cl rq:Int}(b c)(hd:x.dn<=1000)(h:Mc.eP x cl rq=0):Mc.LV x (Mc.j8 x cl rq b) 0 cl rq (Mc.kI x cl rq b) c:=by
 obtain⟨q,l,m,-⟩:=Mc.jF h;obtain⟨f,r⟩:=Mc.uQ h b;have a:Mc.GN (Mc.j8 x cl rq b) cl rq=true->Es.Se.fp (Mc.j8 x cl rq b).Z cl rq=2:=λa=>by
  unfold Mc.GN at a;rw[f,Bool.true_and]at a;exact of_decide_eq_true a
 have j:=Mc.pW f l m qo;refine⟨f,qo,qo,λi=>?_,λi p=>?_⟩
 ·have g:=a i;have k:=Mc.Ev h b g;obtain⟨n,o⟩:=Mc.yr j g c;refine⟨?_,j,o.trans k,n⟩;unfold Mc.Iw;rw[MC f];exact k
 ·have g:=Mc.EJ (a i) p;have d:Mc.eP (Mc.j8 x cl rq b) cl (rq-1)=0:=Mc.pW f l ⟨by omega,by omega⟩ qo;exact⟨d,Mc.tY d (by omega) c⟩
end Go.Proofs.YtiifhfmekbhlnaaGreat
