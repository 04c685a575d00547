/- Part 21. -/
import Derived.Test.YtiifhfmekbhlnaaGreatH20
set_option maxHeartbeats 8000000
set_option maxRecDepth 100000
namespace Go.Proofs.YtiifhfmekbhlnaaGreat
open It RowKit
namespace Nf
theorem xx {L:List cL}{m:Int}(h0:0<=m)(h:∀ x∈L,x.cF<=m):Sp.top L<=m:=by
 have b:∀ (L:List cL) (a:Int),a<=m->(∀ x∈L,x.cF<=m)->L.foldl (λm x=>max m x.cF) a<=m:=by
  intro L
  induction L with
  | nil=>exact λa h _=>h
  | cons x l ih=>exact λa d h=>ih (max a x.cF) (by have:=h x qs;omega) (λy c=>h y (by simp[c]))
 exact b L 0 h0 h
theorem uL (a b):∀ (l:List (Int × ByteArray)),lk (Bs.Bl.within a b l)<=lk l
 | []=>MI _
 | r::l => by
  have ih:=uL a b l;have e:lk (r::l)=r.2.size+lk l:=by simp[Bs.Bl.total]
  rw[e]
  cases hq:Bs.Bl.clip a b r with
  | none =>
   have e2:Bs.Bl.within a b (r::l)=Bs.Bl.within a b l:=by simp[Bs.Bl.within,hq]
   rw[e2];omega
  | some q =>
   have e2:Bs.Bl.within a b (r::l)=q::Bs.Bl.within a b l:=by simp[Bs.Bl.within,hq]
   have e3:lk (q::Bs.Bl.within a b l)=q.2.size+lk (Bs.Bl.within a b l):=by simp[Bs.Bl.total]
   rw[e2,e3];obtain⟨q1,q2,q3⟩:=Bs.Bl.mg hq;unfold Bs.Bl.ee at q2;omega
theorem uD {L:List cL}{a b kind e:Int}(h:gK L a b kind e=0)(he:e≠0):∃ (k:Nat) (x:cL),a=k/\L[k]?=some x/\x.gen=b/\x.kind=kind/\cY L a b=x/\cM L a b=0:=by
 unfold gK at h
 by_cases hf:cM L a b=0
 ·rw[MC hf]at h
  obtain⟨k,x,d,f,g,_,c,_⟩:=Sp.gL hf;rw[c]at h
  by_cases hk2:x.kind=kind
  ·exact⟨k,x,d,f,g,hk2,c,hf⟩
  ·rw[ME hk2]at h
   exact absurd h he
 ·rw[ME hf]at h
  exact absurd h hf
theorem A2 {L:List cL}{k:Nat}{x:cL}{e:Int}(hr:It.right L=true)(hx:L[k]?=some x)(hk:x.kind≠0):gK L k x.gen x.kind e=0/\cM L k x.gen=0/\cY L k x.gen=x:=by
 have a:cM L k x.gen=0:=by
  rw[Hs hr,MC (dY.2 ⟨k,x,hx,rfl,rfl,hk⟩)]
 have b:=Sp.mc a rfl hx;refine⟨?_,a,b⟩;unfold gK;rw[MC a,b,MC rfl]
theorem tE {x:cL}(h:one x=true)(hk:x.kind=1):x.cE=[]/\x.next=0/\Bl.right (-1) x.runs/\Bl.fA x.runs<=x.size/\(0<=x.size/\x.size<=1048576)/\(0<=x.cH/\x.cH<=64)/\(0<=x.cF/\x.cF<=1099511627776):=by
 have c:=h;unfold one at h;simp only[Bool.and_eq_true]at h;have a:=h.2.2;rw[ME qo,MC hk]at a;simp only[Bool.and_eq_true,decide_eq_true_eq]at a;have b:=At.cG.1 h.2.1;unfold At.dN at b;exact⟨Oi.1 a.1.1.1,a.1.1.2,a.1.2,a.2,qo,qo,qo⟩
theorem wu {x y:cL}(h:one x=true)(hk:x.kind=1)(h1:y.gen=x.gen)(h2:y.kind=1)(h3:y.cH=x.cH)(h4:y.cE=x.cE)(h5:y.next=x.next)(h6:0<=y.cF/\y.cF<=1099511627776)(h7:y.size<=1048576)(h8:Bl.right (-1) y.runs)(h9:Bl.fA y.runs<=y.size)(h10:0<=y.size):one y=true:=by
 obtain⟨b,c,d,f,i,j,m⟩:=tE h hk;have a:=ud h;obtain⟨g,k,l,s,t,n,o,p⟩:=y;simp only at h1 h2 h3 h4 h5 h6 h7 h8 h9 h10;subst h2;rw[uN qo (At.cG.2 (by unfold At.dN;omega))];simp only[Bool.and_eq_true,decide_eq_true_eq];exact⟨⟨⟨by rw[h4,b];rfl,qo⟩,h8⟩,h9⟩
noncomputable abbrev JU (x:cL) (c:fw) (dn:Int):cL:={ x with size:=Im x c,cF:=dn,runs:=Bs.Bl.write x.runs c.pl c.data }
structure Ky (L:List cL) (c:fw) (k:Nat) (x:cL):Prop where
 no:c.no = k
 hx:L[k]? = some x
 gen:x.gen = c.gen
 kind:x.kind = 1
 d0:c.data.size≠0
 d1:c.data.size<=512
 p0:0<=c.pl
 p1:c.pl + (c.data.size:Int)<=1048576
 room:By L + lk (Bs.Bl.write x.runs c.pl c.data)<=8192 + lk x.runs
theorem tK {L:List cL}{k:Nat}{x:cL}(hx:L[k]?=some x):lk x.runs<=By L:=by
 have h:=uP L k x gU hx;have e:lk gU.runs=0:=rfl;omega
theorem yC {L:List cL}{k:Nat}{x:cL}{c:fw}(hr:It.right L=true)(hb:By L<=8192)(hx:L[k]?=some x)(hw:Bs.Bl.jV x.runs c.pl c.data=0):Bs.Bl.rU x.runs c.pl c.data=Bs.Bl.write x.runs c.pl c.data/\Bl.right (-1) (Bs.Bl.write x.runs c.pl c.data)/\room L x c=(By L:Int)-lk x.runs+lk (Bs.Bl.write x.runs c.pl c.data):=by
 obtain⟨b,d,f⟩:=Bs.Bl.tN hw;have a:=(br _ _).1 (Bs.Bl.sG b d f);have e:Bs.Bl.rU x.runs c.pl c.data=Bs.Bl.write x.runs c.pl c.data:=by unfold Bs.Bl.rU;rw[MC hw]
 refine⟨e,a,?_⟩;have g:=tK hx;have h:=vx a;unfold room xC;rw[e,Bq hr,vv ((br _ _).1 b),vv a,tB (x:=(By L:Int)-lk x.runs) qo,tB qo]
theorem LL {L:List cL}{O:List Os.dP}{dn:Int}{k:Nat}{x:cL}{c:fw} (h:RX L O dn (λ_=>False)) (hd:dn+1<=1099511627776) (g:Ky L c k x):Bs.Bl.jV x.runs c.pl c.data=0/\one (JU x c (dn+1))=true/\pH x c (dn+1)=JU x c (dn+1)/\RX (L.set k (JU x c (dn+1))) O (dn+1) (λ_=>False):=by
 have f:=(Sp.ei.1 h.sp).1;have b:=(It.cG.1 f).2.2 x (MG g.hx);have q:=h.dn.1;obtain⟨u,v,o,w,y,A,B⟩:=tE b g.kind;have i:Bs.Bl.jV x.runs c.pl c.data=0:=by
  unfold Bs.Bl.jV;rw[MC ((br _ _).2 o),ME (by have:=g.p0;omega),ME (by have:=g.p1;omega)]
 obtain⟨j,d,C⟩:=yC f h.F0 g.hx i;have l:Im x c=max x.size (Bl.fA (Bs.Bl.write x.runs c.pl c.data)):=by unfold Im xC;rw[j,L8]
 have r:Bl.fA (Bs.Bl.write x.runs c.pl c.data)<=1048576:=by
  unfold Bl.fA;rw[MC d];rcases Bl.fP (Bs.Bl.write x.runs c.pl c.data)with h | ⟨m,s,h⟩
  ·rw[h];decide
  ·rw[h, Bl.eI]
   rw[h]at d;exact (Bl.jk d s (by simp)).2.2
 have a:one (JU x c (dn+1))=true:=wu b g.kind rfl g.kind rfl rfl rfl (by show 0<=dn+1/\dn+1<=1099511627776;omega) (by show Im x c<=_;omega) d (by show _<=Im x c;rw[l];exact Int.le_max_right _ _) (by show 0<=Im x c;omega);have n:gE x (Im x c) (dn+1)=0:=Sp.lH f g.hx (by have:=g.kind;omega) ⟨xx (by omega) λz p=>by have:=h.dn.2 z p;omega,by omega⟩ (by omega);refine⟨i,a,?_,Ge h hd g.hx g.kind a rfl g.kind rfl rfl ?_⟩
 ·unfold pH
  rw[MC n];unfold xC;rw[j]
 ·have t := uP L k x (JU x c (dn+1)) g.hx
  have e:lk (JU x c (dn+1)).runs=lk (Bs.Bl.write x.runs c.pl c.data):=rfl;have:=g.room;omega
theorem LP {L:List cL}{O:List Os.dP}{dn:Int}{k:Nat}{x:cL}{c:fw}(h:RX L O dn (λ_=>False))(hd:dn+1<=1099511627776)(g:Ky L c k x):yx L c (dn+1)=L.set k (JU x c (dn+1))/\(AJ L c (dn+1)).e=0:=by
 have d:=(Sp.ei.1 h.sp).1;obtain⟨i,a,l,_⟩:=LL h hd g;obtain⟨j,m,n⟩:=A2 (e:=405) d g.hx (by have:=g.kind;omega);rw[g.kind]at j;obtain⟨o,p,q⟩:=yC d h.F0 g.hx i;have b:=g.room;have f:=Sp.gX (y:=JU x c (dn+1)) m g.hx rfl (by show x.kind≠0;have:=g.kind;omega) a rfl;unfold yx AJ IA;rw[g.no,<-g.gen,j,n,l,i,f.1,f.2,ME qd,ME (by have:=g.d1;omega),ME qd,ME g.d0,ME qo,MC rfl,ME qd,ME (by have:=g.d1;omega),ME qd,ME g.d0,ME qo];exact⟨rfl,rfl⟩
theorem K8 {L : List cL}{O : List Os.dP}{dn : Int}{c : fw}(h : RX L O dn (λ_ => False))(dm ) : (yx L c dm=L ∧ ((AJ L c dm).e≠0 → AJ L c dm=bad (AJ L c dm).e)) \/ ∃ k x, Ky L c k x := by
 have f:=(Sp.ei.1 h.sp).1
 by_cases h1:gK L c.no c.gen 1 405=0
 ·by_cases h2 : 512<c.data.size
  ·left
   unfold yx AJ;rw[ME (by simpa using h1),MC h2,ME (by simpa using h1),MC h2];exact⟨rfl,λ_=>rfl⟩
  ·obtain⟨k,x,a,b,g,i,d,n⟩ := uD h1 qd
   by_cases h3:Bs.Bl.jV x.runs c.pl c.data=0
   ·by_cases h4 : c.data.size=0
    ·left
     unfold yx AJ;rw[d,ME (by simpa using h1),ME h2,ME (by simpa using h3),MC h4,ME (by simpa using h1),ME h2,ME (by simpa using h3),MC h4];exact⟨rfl,λh=>absurd rfl h⟩
    ·by_cases h5 : 8192<room L x c
     ·left
      unfold yx AJ;rw[d,ME (by simpa using h1),ME h2,ME (by simpa using h3),ME h4,MC h5,ME (by simpa using h1),ME h2,ME (by simpa using h3),ME h4,MC h5];exact⟨rfl,λ_=>rfl⟩
     ·right
      obtain⟨o,j,l⟩:=Bs.Bl.tN h3;obtain⟨p,q,r⟩:=yC f h.F0 b h3;have m:=tK b;exact⟨k,x,a,b,g,i,h4,qo,j,l,qo⟩
   ·left
    unfold yx AJ;rw[d,ME (by simpa using h1),ME h2,MC h3,ME (by simpa using h1),ME h2,MC h3];exact⟨rfl,λ_=>rfl⟩
 ·left
  unfold yx AJ;rw[MC h1,MC h1];exact⟨rfl,λ_=>rfl⟩
structure LA (L:List cL) (c:fw) (k:Nat) (x:cL):Prop where
 no:c.no = k
 hx:L[k]? = some x
 gen:x.gen = c.gen
 kind:x.kind = 1
 p0:0<=c.pl
 p1:c.pl<=1048576
abbrev Ki (x:cL) (c:fw) (dn:Int):cL:={ x with size:=c.pl,cF:=dn,runs:=Bs.Bl.within 0 c.pl x.runs }
theorem LM {L:List cL}{O:List Os.dP} {dn:Int} {k:Nat} {x:cL} {c:fw} (h:RX L O dn (λ_=>False)) (hd:dn+1<=1099511627776) (g:LA L c k x):Gw L c (dn+1)=L.set k (Ki x c (dn+1))/\(AW L c (dn+1)).e=0/\RX (L.set k (Ki x c (dn+1))) O (dn+1) (λ_=>False):=by
 have i:=(Sp.ei.1 h.sp).1;have b:=(It.cG.1 i).2.2 x (MG g.hx);have v:=h.dn.1;have d:=g.p0;have j:=g.p1;obtain⟨B,C,q,D,E,F,G⟩:=tE b g.kind;have f:Bl.right (-1) (Bs.Bl.within 0 c.pl x.runs):=(br _ _).1 (wz ((br _ _).2 q));have l:Bs.Bl.o5 x.runs c.pl=Bs.Bl.within 0 c.pl x.runs:=by
  unfold Bs.Bl.o5 Bs.Bl.jx;rw[MC ((br _ _).2 q),ME (show ¬ c.pl<0 by omega),MC rfl]
 have s:Bl.fA (Bs.Bl.within 0 c.pl x.runs)<=c.pl:=by
  unfold Bl.fA;rw[MC f,<-ble];exact Bs.Bl.uU _ _ _ d
 have a:one (Ki x c (dn+1))=true:=wu b g.kind rfl g.kind rfl rfl rfl (by show 0<=dn+1/\dn+1<=1099511627776;omega) j f s d;have o:gE x c.pl (dn+1)=0:=Sp.lH i g.hx (by have:=g.kind;omega) ⟨xx (by omega) λz u=>by have:=h.dn.2 z u;omega,by omega⟩ (by omega);have p:C4 x c (dn+1)=Ki x c (dn+1):=by unfold C4;rw[l]
 obtain⟨n,t,r⟩:=A2 (e:=405) i g.hx (by have:=g.kind;omega);rw[g.kind]at n;have m:=Sp.gX (y:=Ki x c (dn+1)) t g.hx rfl (by show x.kind≠0;have:=g.kind;omega) a rfl;refine⟨?_,?_,Ge h hd g.hx g.kind a rfl g.kind rfl rfl ?_⟩
 ·unfold Gw IA
  rw[g.no,<-g.gen,n,r,p,o,MC rfl,MC rfl,m.1,MC rfl,m.2]
 ·unfold AW
  rw[g.no,<-g.gen,n,r,p,o,MC rfl,MC rfl,m.1]
 ·have w := uP L k x (Ki x c (dn+1)) g.hx
  have A:=uL 0 c.pl x.runs;have e:lk (Ki x c (dn+1)).runs=lk (Bs.Bl.within 0 c.pl x.runs):=rfl;have:=h.F0;omega
theorem LO {L : List cL}{c : fw}(dm ) : (Gw L c dm=L ∧ AW L c dm=bad (AW L c dm).e ∧ (AW L c dm).e≠0) \/ ∃ k x, LA L c k x := by
 by_cases h1:gK L c.no c.gen 1 405=0
 ·obtain⟨k,x,a,d,f,g,h,i⟩ := uD h1 qd
  by_cases h2:gE x c.pl dm=0
  ·right
   have b : 0 ≤ c.pl ∧ c.pl ≤ 1048576 := by
    unfold gE At.eK at h2;split at h2
    ·split at h2
     ·split at h2
      ·exact absurd h2 qd
      ·split at h2
       ·assumption
       ·exact absurd h2 qd
     ·exact absurd h2 qd
    ·exact absurd h2 qd
   exact⟨k,x,a,d,f,g,b.1,b.2⟩
  ·left
   unfold Gw AW;rw[MC h1,h,ME h2,MC h1,ME h2];exact⟨rfl,rfl,h2⟩
 ·left
  unfold Gw AW;rw[ME h1,ME h1];exact⟨rfl,rfl,h1⟩
end Nf
namespace Nf
theorem drop_zero {T:List cL}{k:Nat}{y:cL}(hr:It.right T=true)(hy:T[k]?=some y)(hk:y.kind=1)(h0:k≠0):eX T k y.gen=0/\gF T k y.gen=T.set k (gone y.gen):=by
 obtain⟨c,b,d⟩:=A2 (e:=405) hr hy qo;have a:eX T k y.gen=0:=by unfold eX;rw[MC b,ME qo]
 refine⟨a,?_⟩;unfold gF;rw[MC a,show ((k:Int)).toNat=k by omega,Sp.tt hy]
theorem DM {T:List cL}{k:Nat}{y:cL}(hr:It.right T=true)(hy:T[k]?=some y)(hk:y.kind=1):0<=y.cH:=(tE ((It.cG.1 hr).2.2 y (MG hy)) hk).2.2.2.2.2.1.1
theorem GJ {T:List cL}{O:List Os.dP}{dn:Int}{k:Nat}{y:cL}(h:RX T O dn (λi=>i=k))(hy:T[k]?=some y)(hk:y.kind=1):I5 T O ((k:Int),y.gen)=0/\RX (GF T O ((k:Int),y.gen)) O dn (λ_=>False)/\((GF T O ((k:Int),y.gen))=T\/(y.cH=0/\GF T O ((k:Int),y.gen)=T.set k (gone y.gen))):=by
 have a:=(Sp.ei.1 h.sp).1;have m:k≠0:=by
  rintro rfl;have:=Sp.kH a hy;omega
 unfold I5 GF
 cases hb:k8 T O ((k:Int),y.gen)with
 | true =>
  refine⟨rfl,Hz h λx l n b=>?_,.inl rfl⟩;rw[MC rfl]at *;rw[hy]at l
  cases l
  rcases (pZ hy).1 hb with g | g
  ·omega
  ·exact g
 | false =>
  obtain⟨c,j⟩:=drop_zero a hy hk m;have f:¬ (0<y.cH\/Hl O k y.gen):=λd=>by
   rw[(pZ hy).2 d]at hb
   cases hb
  have b:y.cH=0:=by
   have:=DM a hy hk;have:¬ 0<y.cH:=λh=>f (.inl h)
   omega
  refine⟨c,?_,.inr ⟨b,?_⟩⟩
  ·show RX (if eX T k y.gen=0 then gF T k y.gen else T) O dn _
   rw[MC c,j];exact Jw h hy hk b λd=>f (.inr d)
  ·show (if eX T k y.gen=0 then gF T k y.gen else T)=_
   rw[MC c,j]
theorem Hq {L : List cL}{O : List Os.dP}{dn cl fd : Int}(h : RX L O dn (λ_ => False))(hc : Os.Op.eO O cl fd=0) : ∃ (k : Nat) (x : cL), Os.Op.gq O cl fd=((k : Int), x.gen) ∧ L[k]?=some x ∧ x.kind=1 ∧ RX L (Os.Op.closed O cl fd) dn (λi => i=k) := by
 unfold Os.Op.eO at hc;unfold Os.Op.gq Os.Op.closed
 by_cases ha:Os.Op.ask O cl=0
 ·rw[MC ha]at hc |-
  rw[MC ha]
  cases hf:O.find? (Os.Op.js cl fd)with
  | none =>
   rw[hf]at hc;exact absurd hc qd
  | some o =>
   have n:=Pe hf;have c:=List.find?_some hf;obtain⟨k,x,r,d,s,t⟩:=h.fl o n;refine⟨k,x,Prod.ext d s.symm,r,t,h.sp,?_,?_,?_,h.F0,h.dn⟩
   ·show Os.Op.right 0 (Os.Op.gP O [o])=true
    rw[Os.Op.n5 h.os hf];obtain⟨u,v⟩:=(Os.Op.cG O 0).1 h.os;exact (Os.Op.cG _ 0).2 ⟨λz b=>u z (NK.1 b).1,v.sublist List.filter_sublist⟩
   ·intro z b
    show _;have a:z∈Os.Op.gP O [o]:=b;rw[Os.Op.n5 h.os hf]at a;exact h.fl z (NK.1 a).1
   ·intro i z b f g j
    obtain⟨p,q,l,m⟩:=h.nd i z b f g id;refine⟨p,?_,l,m⟩;show p∈Os.Op.gP O [o];rw[Os.Op.n5 h.os hf];refine NK.2 ⟨q,?_⟩
    cases hq:Os.Op.js cl fd p with
    | false=>rfl
    | true =>
     exfalso;have:=Os.Op.Fq h.os q n hq c;subst this;exact j qo
 ·rw[ME ha]at hc
  exact absurd hc ha
theorem Ip {L:List cL}{O:List Os.dP}{dn cl:Int}{k:Nat}{x:cL}(h:RX L O dn (λ_=>False))(hx:L[k]?=some x)(hk:x.kind=1)(ho:Os.Op.iA O cl k x.gen=0):RX L (Os.Op.opened O cl k x.gen) dn (λ_=>False):=by
 have g:=Os.Op.zg ho;have c:∀ z,z∈Os.Op.opened O cl k x.gen ↔ z∈O\/z=((Os.Op.least 0 O:Int),cl,(k:Int),x.gen):=λz=>by
  rw[g.2.2.2.2.2.1];have e:z∈O ↔ z∈O.take (Os.Op.least 0 O)\/z∈O.drop (Os.Op.least 0 O):=by
   rw[<-Na,Nj]
  rw[Na,Na,NG,e];constructor
  ·rintro ((b | b) | b)
   ·exact .inl (.inl b)
   ·exact .inr b
   ·exact .inl (.inr b)
  ·rintro ((b | b) | b)
   ·exact .inl (.inl b)
   ·exact .inr b
   ·exact .inl (.inr b)
 refine⟨h.sp,Os.Op.Gu ho,λz f=>?_,λi z f b l m=>?_,h.F0,h.dn⟩
 ·rcases (c z).1 f with b | b
  ·exact h.fl z b
  ·rw[b]
   exact⟨k,x,hx,rfl,rfl,hk⟩
 ·obtain⟨p,j,d⟩ := h.nd i z f b l m
  exact⟨p,(c p).2 (.inl j),d⟩
def PP (L:List cL) (c:fw) (e:eA):Prop:=e.1=c.nm/\(c.k=9\/c.k=11\/∃ x,L[e.2.2.1.toNat]?=some x/\x.kind=2)
def LV (L : List cL) (dn : Int) (c : fw) (T : List cL) : Prop :=
 T=L \/ (∃ kt, Ah L T dn kt (PP L c)) \/ (∃ (k : Nat) (x y : cL), L[k]?=some x ∧ x.kind=1 ∧ c.no=k ∧ c.gen=x.gen ∧ T=L.set k y) \/
  ∃ (kt:Nat) (T1:List cL) (y:cL),Sp.cZ T1=true/\(T1=L\/Ah L T1 dn kt (PP L c))/\T1[kt]?=some y/\y.kind=1/\y.cH=0/\T=T1.set kt (gone y.gen)
theorem Ah.mono {L T:List cL}{st:Int}{kt:Nat}{P Q:eA->Prop}(c:Ah L T st kt P)(h:∀ e,P e->Q e):Ah L T st kt Q:=⟨c.sp,c.len,λi x p=>by
 obtain⟨d,f,b⟩:=c.Fh i x p;refine⟨d,f,?_⟩;rcases b with⟨g,j,k,l,m,n,o⟩ | b | b
 ·exact .inl ⟨g,j,k,l,m,n,λe q=>(o e q).imp id (h e)⟩
 ·exact .inr (.inl b)
 ·exact .inr (.inr b),c.new⟩
structure Out (L:List cL) (O:List Os.dP) (dn:Int) (c:fw) (T:List cL) (Q:List Os.dP) (R:sv):Prop where
 rx:RX T Q dn (λ_=>False)
 LY:LV L dn c T
 err:R.e≠0->T = L/\Q = O/\R = bad R.e
section
variable {L:List cL} {O:List Os.dP} {dn:Int} {c:fw}
theorem fM {R:sv}(h:RX L O dn (λ_=>False))(hd:dn+1<=1099511627776)(hR:R.e≠0->R=bad R.e):Out L O (dn+1) c L O R:=⟨qH h hd,.inl rfl,λa=>⟨rfl,rfl,hR a⟩⟩
theorem tA {T:List cL}{R:sv}(h:RX L O dn (λ_=>False))(hd:dn+1<=1099511627776)(hT:Ah L T (dn+1) 0 (PP L c))(hR:R.e=0):Out L O (dn+1) c T O R :=
 ⟨Hz (FC h hd hT) λx a d=>by
  have:=Sp.kH (Sp.ei.1 hT.sp).1 a;omega,.inr (.inl ⟨0,hT⟩),λb=>absurd hR b⟩
theorem qw {E no gen:Int}{x:cL}:(told E no gen x).e≠0->told E no gen x=bad (told E no gen x).e:=by
 unfold told;split
 ·exact λh=>absurd rfl h
 ·exact λ_=>rfl
theorem FX {E no gen:Int}{x:cL}:(told E no gen x).e=E:=by
 unfold told;split
 ·rename_i h
  exact h.symm
 ·rfl
theorem Ad {kind:Int}(h:RX L O dn (λ_=>False))(hd:dn+1<=1099511627776):Out L O (dn+1) c (nj L c kind (dn+1)) O (lr L c kind (dn+1)):=by
 unfold nj lr
 by_cases he:Sp.p6 (Sp.dW Sp.cZ) L c.no c.gen c.nm kind (dn+1)=0
 ·rw[MC he]
  exact tA h hd ((F9 he).mono λ_ h=>h.elim) (FX.trans he)
 ·rw[ME he]
  exact fM h hd qw
theorem He (h:RX L O dn (λ_=>False))(hd:dn+1<=1099511627776):Out L O (dn+1) c (Fe L c (dn+1)) O (CO L c (dn+1)):=by
 unfold CO
 by_cases he:Fg L c (dn+1)=0
 ·unfold Fe
  rw[MC he,he];unfold Fg at he;exact tA h hd ((Gt he).mono λ_ h=>h.elim) FX
 ·rw[show Fe L c (dn+1)=L from by unfold Fe;rw[ME he]]
  exact fM h hd qw
theorem Ce (hk:c.k=9)(h:RX L O dn (λ_=>False))(hd:dn+1<=1099511627776):Out L O (dn+1) c (Kq L O c.no c.gen c.nm (dn+1)) O (bad (Kh L O c.no c.gen c.nm (dn+1))):=by
 unfold Kq Kh
 by_cases he:Sp.vR (Sp.dW Sp.cZ) L c.no c.gen c.nm (dn+1)=0
 ·rw[MC he,MC he]
  obtain⟨f,y,j,g,b,p,i⟩:=Bt he;have a:Ah L _ (dn+1) f (PP L c):=i.mono λe h=>⟨h,.inl hk⟩
  rw[j];obtain⟨l,m,d⟩:=GJ (FC h hd a) g b;refine⟨m,?_,λo=>absurd l o⟩;rcases d with d | ⟨d,n⟩
  ·rw[d]
   exact .inr (.inl ⟨f,a⟩)
  ·exact .inr (.inr (.inr ⟨f,_,y,i.sp,.inr a,g,b,d,n⟩))
 ·rw[ME he,ME he]
  exact fM h hd λ_=>rfl
theorem DW (h:RX L O dn (λ_=>False))(hd:dn+1<=1099511627776):Out L O (dn+1) c (J8 L c.no c.gen c.nm (dn+1)) O (bad (Sp.yN (Sp.dW Sp.cZ) L c.no c.gen c.nm (dn+1))):=by
 unfold J8
 by_cases he:Sp.yN (Sp.dW Sp.cZ) L c.no c.gen c.nm (dn+1)=0
 ·rw[MC he]
  exact tA h hd ((Ef he).mono λe h=>⟨h.1,.inr (.inr h.2)⟩) he
 ·rw[ME he]
  exact fM h hd λ_=>rfl
theorem CB (hk:c.k=11)(h:RX L O dn (λ_=>False))(hd:dn+1<=1099511627776):Out L O (dn+1) c (vK L c.no c.gen c.nm c.jz c.fm c.lV (dn+1)) O (bad (Sp.yh (Sp.dW Sp.cZ) Sp.l7 L c.no c.gen c.nm c.jz c.fm c.lV (dn+1))):=by
 unfold vK
 by_cases he:Sp.yh (Sp.dW Sp.cZ) Sp.l7 L c.no c.gen c.nm c.jz c.fm c.lV (dn+1)=0
 ·rw[MC he]
  exact tA h hd ((BJ he).mono λe h=>⟨h,.inr (.inl hk)⟩) he
 ·rw[ME he]
  exact fM h hd λ_=>rfl
theorem DY (h:RX L O dn (λ_=>False))(hd:dn+1<=1099511627776):Out L O (dn+1) c (yx L c (dn+1)) O (AJ L c (dn+1)):=by
 rcases K8 (c:=c) h (dn+1)with⟨h1,h2⟩ | ⟨k,x,g⟩
 ·rw[h1]
  exact fM h hd h2
 ·obtain⟨a,b⟩ := LP h hd g
  rw[a];exact⟨(LL h hd g).2.2.2,.inr (.inr (.inl ⟨k,x,_,g.hx,g.kind,g.no,g.gen.symm,rfl⟩)),λd=>absurd b d⟩
theorem Jv (h:RX L O dn (λ_=>False))(hd:dn+1<=1099511627776):Out L O (dn+1) c (Gw L c (dn+1)) O (AW L c (dn+1)):=by
 rcases LO (c:=c) (L:=L) (dn+1)with⟨h1,h2,_⟩ | ⟨k,x,g⟩
 ·rw[h1]
  exact fM h hd λ_=>h2
 ·obtain⟨a,b,d⟩ := LM h hd g
  rw[a];exact⟨d,.inr (.inr (.inl ⟨k,x,_,g.hx,g.kind,g.no,g.gen.symm,rfl⟩)),λf=>absurd b f⟩
theorem GW {cl : Int}(h : RX L O dn (λ_ => False))(hd : dn+1 ≤ 1099511627776) : Out L O (dn+1) c L (if CC L O cl c=0 then Os.Op.opened O cl c.no c.gen else O) (CI L O cl c) := by
 by_cases he:CC L O cl c=0
 ·rw[MC he]
  have a:gK L c.no c.gen 1 405=0:=by
   unfold CC at he
   by_cases a:gK L c.no c.gen 1 405=0
   ·exact a
   ·rw[ME a]at he
    exact absurd he a
  have b:=he;unfold CC at b;rw[MC a]at b;obtain⟨k,x,d,f,g,i,l,m⟩:=uD a qd;rw[d,<-g]at b |-;exact⟨Ip (qH h hd) f i b,.inl rfl,λj=>absurd he j⟩
 ·rw[ME he]
  refine fM h hd λ_=>?_
  unfold CI bad LC;rw[ME he]
theorem Dz {cl:Int}(h:RX L O dn (λ_=>False))(hd:dn+1<=1099511627776):Out L O (dn+1) c (KH L O cl c.n) (if Os.Op.eO O cl c.n=0 then Os.Op.closed O cl c.n else O) (bad (Kv L O cl c.n)):=by
 unfold KH Kv
 by_cases he:Os.Op.eO O cl c.n=0
 ·rw[MC he,MC he,MC he]
  obtain⟨k,x,f,b,d,g⟩:=Hq h he;rw[f];obtain⟨i,j,a⟩:=GJ (qH g hd) b d;refine⟨j,?_,λm=>absurd i m⟩;rcases a with a | ⟨a,l⟩
  ·exact .inl a
  ·exact .inr (.inr (.inr ⟨k,L,x,h.sp,.inl rfl,b,d,a,l⟩))
 ·rw[ME he,ME he,ME he]
  exact fM h hd λ_=>rfl
theorem Hf (h:RX L O dn (λ_=>False))(hd:dn+1<=1099511627776):Out L O (dn+1) c L O (C7 L c):=fM h hd λb=>by
 unfold C7 bad at *;have a:=b;have:KP L c=⟨#[]⟩:=by
  unfold Km at a;unfold KP;split
  ·rename_i h1
   rw[MC h1]at a;unfold Bs.Bl.xD;rw[ME a];rfl
  ·rfl
 rw[this]
theorem Fz (h:RX L O dn (λ_=>False))(hd:dn+1<=1099511627776):Out L O (dn+1) c L O (y7 L c):=fM h hd λd=>by
 unfold y7 bad at *;have b:=d;have:JR L c=[]:=by
  unfold LH at b;unfold JR;split
  ·rename_i h1
   rw[MC h1]at b;exact Fo.tv rfl b
  ·rfl
 rw[this]
theorem FU {cl:Int}(h:RX L O dn (λ_=>False))(hd:dn+1<=1099511627776)(hc:Ks.Ak.right c=true):Out L O (dn+1) c (tab L O (dn+1) cl c) (ops L O cl c) (rep L O (dn+1) cl c):=by
 have b:=(Ks.Ak.cG.1 hc).1;unfold tab ops rep
 by_cases h1:c.k=1
 ·simp only[h1,if_true]
  exact fM h hd qw
 by_cases h2:c.k=2
 ·simp only[h2,if_true]
  exact fM h hd qw
 by_cases h3:c.k=3
 ·simp only[h3,if_true]
  exact Ad h hd
 by_cases h4:c.k=4
 ·simp only[h4,if_true]
  exact Ad h hd
 by_cases h5:c.k=5
 ·simp only[h5,if_true]
  exact Hf h hd
 by_cases h6:c.k=6
 ·simp only[h6,if_true]
  exact DY h hd
 by_cases h7:c.k=7
 ·simp only[h7,if_true]
  exact Jv h hd
 by_cases h8:c.k=8
 ·simp only[h8,if_true]
  exact He h hd
 by_cases h9:c.k=9
 ·simp only[h9,if_true]
  exact Ce h9 h hd
 by_cases h10:c.k=10
 ·simp only[h10,if_true]
  exact DW h hd
 by_cases h11:c.k=11
 ·simp only[h11,if_true]
  exact CB h11 h hd
 by_cases h12:c.k=12
 ·simp only[h12,if_true]
  exact Fz h hd
 by_cases h13:c.k=13
 ·simp only[h13,if_true]
  exact GW h hd
 ·have a : c.k=14 := by omega
  simp only[a,if_true];exact Dz h hd
theorem KJ {cl:Int}(h:RX L O dn (λ_=>False)):RX (EL L O dn cl c) (Fi L O dn cl c) (C3 L O dn cl) (λ_=>False)/\LV L (C3 L O dn cl) c (EL L O dn cl c)/\((kI L O dn cl c).e≠0->EL L O dn cl c=L/\Fi L O dn cl c=O/\kI L O dn cl c=bad (kI L O dn cl c).e):=by
 unfold EL Fi C3 kI
 by_cases he:eP L O dn cl=0
 ·obtain⟨_,b,_⟩ := AS he
  have a:=h.dn.1;rw[MC he,MC he,MC he,MC he]
  by_cases hc:Ks.Ak.right c=true
  ·rw[MC hc,MC hc,MC hc]
   have g:=FU (cl:=cl) h qo hc;exact⟨g.rx,g.LY,g.err⟩
  ·rw[ME hc,ME hc,ME hc]
   exact⟨qH h qo,.inl rfl,λ_=>⟨rfl,rfl,rfl⟩⟩
 ·rw[ME he,ME he,ME he,ME he]
  exact⟨h,.inl rfl,λ_=>⟨rfl,rfl,rfl⟩⟩
end
end Nf
end Go.Proofs.YtiifhfmekbhlnaaGreat
namespace Go.Proofs.YtiifhfmekbhlnaaGreat
open It RowKit
namespace Mc
open Sh
def rp (r:Nf.sv):Ks.Rs.gw:=⟨r.e,r.no,r.gen,r.kind,r.cH,r.size,r.cF,r.data,r.cE,r.n⟩
def bytes (r:Nf.sv):ByteArray:=Ks.Rs.Re.db (rp r)
noncomputable def wh (x:iF):Bool:=whole x.L x.O x.Z x.dn
def KD (cl rq:Int):Bool:=decide (0<=cl/\cl<=1099511627776)&&decide (1<=rq/\rq<=1099511627776)
noncomputable def eP (x:iF) (cl rq:Int):Int:=if wh x=true then (if KD cl rq=true then (if x.dn=1099511627776 then 5 else 0) else 1) else 4
noncomputable def CL (x:iF) (cl:Int) (b:ByteArray):Nf.sv:=if Ks.Ak.fZ b.data.toList=0 then Nf.kI x.L x.O x.dn cl (Ks.Ak.jY b.data.toList) else Nf.bad 413
noncomputable def Cy (x:iF) (cl:Int) (b:ByteArray):iF:=if Ks.Ak.fZ b.data.toList=0 then ⟨Nf.EL x.L x.O x.dn cl (Ks.Ak.jY b.data.toList),Nf.Fi x.L x.O x.dn cl (Ks.Ak.jY b.data.toList),x.Z,Nf.C3 x.L x.O x.dn cl⟩ else { x with dn:=x.dn+1 }
noncomputable def vH (x:iF) (cl:Int) (b:ByteArray):ByteArray:=bytes (CL x cl b)
noncomputable def JD (x:iF) (cl rq:Int) (b:ByteArray):iF:={ Cy x cl b with Z:=Es.Se.put x.Z cl rq (vH x cl b) }
noncomputable def j8 (x:iF) (cl rq:Int) (b:ByteArray):iF:=if eP x cl rq=0 then (if Es.Se.fp x.Z cl rq=1 then JD x cl rq b else x) else EN
noncomputable def kI (x:iF) (cl rq:Int) (b:ByteArray):ByteArray :=
 if eP x cl rq=0 then (if Es.Se.fp x.Z cl rq=1 then vH x cl b else if Es.Se.fp x.Z cl rq=2 then Es.Se.told x.Z cl rq else if Es.Se.fp x.Z cl rq=3 then bytes (Nf.bad 7) else bytes (Nf.bad 412)) else ⟨#[]⟩
theorem jF {x:iF}{cl rq:Int}(h:eP x cl rq=0):wh x=true/\(0<=cl/\cl<=1099511627776)/\(1<=rq/\rq<=1099511627776)/\x.dn≠1099511627776:=by
 unfold eP at h;split at h
 ·rename_i h1
  split at h
  ·rename_i h2
   split at h
   ·exact absurd h qd
   ·rename_i h3
    unfold KD at h2;simp only[Bool.and_eq_true,decide_eq_true_eq]at h2;exact⟨h1,h2.1,h2.2,h3⟩
  ·exact absurd h qd
 ·exact absurd h qd
theorem pW {x:iF}{cl rq:Int}(h1:wh x=true)(h2:0<=cl/\cl<=1099511627776)(h3:1<=rq/\rq<=1099511627776)(h4:x.dn≠1099511627776):eP x cl rq=0:=by
 have a:KD cl rq=true:=by unfold KD;rw[MT h2,MT h3];rfl
 unfold eP;rw[MC h1,MC a,ME h4]
theorem ru {x:iF}:wh x=true ↔ Nf.right x.L x.O x.dn=true/\Es.Se.ok x.Z=true/\∀ z∈x.Z,oX z=false:=by
 unfold wh whole;simp only[Bool.and_eq_true,Bool.not_eq_true',List.any_eq_false,Bool.not_eq_true]
theorem Au (r):Ks.Rs.Re.fZ (bytes r).data.toList=0/\(bytes r).size<=8192:=by
 unfold bytes Ks.Rs.Re.db;split
 ·rename_i h
  obtain⟨-,a,b⟩:=Ks.Rs.Re.back h;rw[Ks.Pl.kb];refine⟨a,?_⟩;rw[Ks.Pl.iP];omega
 ·exact⟨by decide +kernel,MV _⟩
theorem uI {x:iF}{cl rq:Int}(h:eP x cl rq=0):Es.Se.fu x.Z cl rq=0:=by
 obtain⟨a,b,c,-⟩:=jF h;exact Es.Se.oq (ru.1 a).2.1 b c
theorem zp {x:iF}{cl rq:Int}(h:eP x cl rq=0)(hw:Es.Se.fp x.Z cl rq=1)(b):Es.Se.dM x.Z cl rq (vH x cl b)=0:=by
 unfold Es.Se.dM;have:=(Au (CL x cl b)).2;rw[MC (uI h),ME (by unfold vH;omega),ME qo,MC hw]
theorem vB {x:iF}{cl rq:Int}(h:eP x cl rq=0)(b):Nf.right (Cy x cl b).L (Cy x cl b).O (Cy x cl b).dn=true/\(Cy x cl b).dn=x.dn+1:=by
 obtain⟨f,g,k,i⟩:=jF h;have c:=(ru.1 f).1;have a:=Nf.nI.1 c;have j:=a.dn.1;unfold Cy;split
 ·have d:Nf.eP x.L x.O x.dn cl=0:=by unfold Nf.eP;rw[MC c,ME i,MC g]
  refine⟨Nf.nI.2 (Nf.KJ a).1,?_⟩;show Nf.C3 x.L x.O x.dn cl=_;unfold Nf.C3;rw[MC d]
 ·exact⟨Nf.nI.2 (Nf.qH a qo),rfl⟩
theorem uQ {x:iF}{cl rq:Int}(h:eP x cl rq=0)(b):wh (j8 x cl rq b)=true/\((j8 x cl rq b).dn=x.dn+1\/(j8 x cl rq b).dn=x.dn):=by
 have d:=(jF h).1;unfold j8;rw[MC h];split
 ·rename_i hw
  obtain⟨f,g⟩:=vB h b;have c:=zp h hw b;refine⟨ru.2 ⟨f,?_,λz i=>?_⟩,.inl g⟩
  ·show Es.Se.ok (Es.Se.put x.Z cl rq (vH x cl b))=true;rw[Es.Se.put_eq (x:=(cl,rq,vH x cl b)) c];exact Es.Se.yc (x:=(cl,rq,vH x cl b)) c
  ·have a:z∈Es.Se.put x.Z cl rq (vH x cl b):=i;rw[Es.Se.put_eq (x:=(cl,rq,vH x cl b)) c]at a;rcases Es.Se.qD.1 a with rfl | ⟨a,-⟩
   ·unfold oX;have:=(Au (CL x cl b)).1;exact MO λj=>j this
   ·exact (ru.1 d).2.2 z a
 ·exact⟨d,.inr rfl⟩
theorem AL {x:iF}{cl rq:Int}(h:eP x cl rq=0)(hw:Es.Se.fp x.Z cl rq=1)(b):Es.Se.fp (j8 x cl rq b).Z cl rq=2/\Es.Se.told (j8 x cl rq b).Z cl rq=vH x cl b:=by
 obtain⟨k,f,g,-⟩:=jF h;have a:=zp h hw b;have e:(j8 x cl rq b).Z=Es.Se.mT x.Z (cl,rq,vH x cl b):=by
  unfold j8;rw[MC h,MC hw];exact Es.Se.put_eq (x:=(cl,rq,vH x cl b)) a
 have c:=Es.Se.yc (x:=(cl,rq,vH x cl b)) a;have d:=(Es.Se.tX (Es.Se.fh c)).2 ⟨Es.Se.qD.2 (.inl rfl),rfl⟩;obtain⟨i,j⟩:=Es.Se.kJ (Es.Se.oq c f g) d;rw[e,i,j];exact⟨by rw[ME qs,ME qs],by rw[MC rfl]⟩
end Mc
end Go.Proofs.YtiifhfmekbhlnaaGreat
namespace Go.Proofs.YtiifhfmekbhlnaaGreat.Es
open ChangeShapes WideShapes ChangeAt RowKit Deep
theorem laidOut:laidOutB Tryz.prog=true:=qk
theorem own:ownKnob Tryz.prog.godebug=none:=qk
theorem JL:(Tryz.prog.info? 47).map (λi=>(i.zero,i.size,i.bytes))=some (some (.agg #[.int .i64 0,.int .i64 0,.string ⟨#[]⟩]),3,32):=qk
theorem NQ {P:Program}{e:TypeId}{z:Value}{n b:Nat}(h:(P.info? e).map (λi=>(i.zero,i.size,i.bytes))=some (some z,n,b)):∃ i,P.info? e=some i/\i.zero=some z/\i.size=n/\i.bytes=b:=by
 cases hi:P.info? e with
 | none=>rw[hi]at h;cases h
 | some i =>
  rw[hi]at h;simp at h;exact⟨i,rfl,h.1,h.2.1,h.2.2⟩
theorem eJ (lo x hi)(w):Calls Tryz.prog 44 #[.int .i64 lo,.int .i64 x,.int .i64 hi] w λe w'=>e=.returned (.bool (decide (lo<=x/\x<=hi)))/\w'=w:=by
 by_cases h1:lo<=x
 ·by_cases h2 : x ≤ hi
  ·rw[MT (show lo ≤ x ∧ x ≤ hi from⟨h1,h2⟩)]
   go_enter Tryz.func44,Tryz.ntmps44;go_wp2;go_ret;exact⟨rfl,rfl⟩
  ·rw[MO (show ¬ (lo ≤ x ∧ x ≤ hi) from λh => h2 h.2)]
   go_enter Tryz.func44,Tryz.ntmps44;go_wp2;go_ret;exact⟨rfl,rfl⟩
 ·rw[MO (show ¬ (lo ≤ x ∧ x ≤ hi) from λh => h1 h.1)]
  go_enter Tryz.func44,Tryz.ntmps44;go_wp2;go_ret;exact⟨rfl,rfl⟩
theorem dD (lo x hi)(w)(h:lo<=x/\x<=hi):Calls Tryz.prog 44 #[.int .i64 lo,.int .i64 x,.int .i64 hi] w λe w'=>e=.returned (.bool true)/\w'=w:=by
 have:=eJ lo x hi w
 rwa [MT h]at this
theorem ix (lo x hi)(w)(h:¬ (lo<=x/\x<=hi)):Calls Tryz.prog 44 #[.int .i64 lo,.int .i64 x,.int .i64 hi] w λe w'=>e=.returned (.bool false)/\w'=w:=by
 have:=eJ lo x hi w
 rwa [MO h]at this
theorem AQ (c)(w):Calls Tryz.prog 45 #[.int .i64 c] w λe w'=>e=.returned (.bool (decide (Se.Rq c)))/\w'=w:=by
 obtain⟨b,a⟩:=qE (decide (Se.Rq c));have d:=hH<|(show decide (1<=c/\c<=1099511627776)=decide (Se.Rq c) from decide_eq_decide.2 Iff.rfl).trans a;rw[a];clear a;go_enter Tryz.func45,Tryz.ntmps45;go_wp2_with fail;refine (eJ _ _ _ _).mono ?_;rintro e w' ⟨rfl,rfl⟩;rw[d.out];go_wp2;go_ret;exact⟨rfl,rfl⟩
theorem uO (c)(w)(h:Se.Rq c):Calls Tryz.prog 45 #[.int .i64 c] w λe w'=>e=.returned (.bool true)/\w'=w:=by
 have:=AQ c w
 rwa [MT h]at this
theorem CF (c)(w)(h:¬ Se.Rq c):Calls Tryz.prog 45 #[.int .i64 c] w λe w'=>e=.returned (.bool false)/\w'=w:=by
 have:=AQ c w
 rwa [MO h]at this
abbrev BS (x:fB):Obj:=.cells #[.int .i64 x.1,.int .i64 x.2.1,.string x.2.2] 47
abbrev VS (x:fB):Value:=.agg #[.int .i64 x.1,.int .i64 x.2.1,.string x.2.2]
theorem dh {w1:World}{p:Nat}(hp:p<w1.1.size)(o)(j):(w1.alloc o).cell? ⟨p,j,none⟩=w1.cell? ⟨p,j,none⟩:=((MJ w1.1.size w1).alloc qn o).cell (p:=⟨p,j,none⟩) hp
theorem iU {w:World}{b j:Nat}{v:Value}(h:w.cell? ⟨b,j,none⟩=some v):b<w.1.size:=by
 unfold World.cell? at h
 by_cases hb:b<w.1.size
 ·exact hb
 ·rw[NM (by simpa using hb)]at h
  simp at h
theorem dG {w w':World}{b j:Nat}{v:Value}(h:w.cell? ⟨b,j,none⟩=some v)(hb:Bw w w')(hl:b<w.1.size):w'.cell? ⟨b,j,none⟩=some v:=(hb.cell (p:=⟨b,j,none⟩) hl).trans h
theorem cC {w w':World}{b j:Nat}{v:Value}(h:w.cell? ⟨b,j,none⟩=some v)(hb:Bw w w'):w'.cell? ⟨b,j,none⟩=some v:=dG h hb (iU h)
theorem dH {w w':World}(h:Below w.drew.1.size w.drew w'):Bw w w':=⟨h.os,h.tape,h.output,h.size,h.block⟩
theorem kC {w wr:World}{b off k:Nat}{x:fB}(h:Bw w wr)(hB:b<w.1.size)(hc:∀ j u,(ES.cells x)[j]?=some u->w.cell? ⟨b,off+(k*ES.sz+j),none⟩=some u) :
  wr.cell? ⟨b,off+k*3,none⟩=some (.int .i64 x.1)/\wr.cell? ⟨b,off+k*3+1,none⟩=some (.int .i64 x.2.1)/\wr.cell? ⟨b,off+k*3+2,none⟩=some (.string x.2.2):=by
 have a:=λj u c=>(h.cell (p:=⟨b,off+(k*ES.sz+j),none⟩) hB).trans (hc j u c)
 exact⟨a 0 _ rfl,a 1 _ rfl,a 2 _ rfl⟩
theorem GZ {w:World}{A:Nat}{x:fB}(h:w.1[A]?=some (BS x)) :
  (w.cell? ⟨A,0,none⟩=some (.int .i64 x.1)/\w.cell? ⟨A,1,none⟩=some (.int .i64 x.2.1)/\w.cell? ⟨A,2,none⟩=some (.string x.2.2))/\∀ j,w.frozen? ⟨A,j,none⟩=false:=by
 refine⟨⟨?_,?_,?_⟩,λj=>?_⟩ <;> simp[World.cell?,World.frozen?,h]
abbrev KI (w:World) (ao:Option Addr) (l:List fB):Prop:=∀ i x,l[i]? = some x->∃ b off,ao = some ⟨b,off,none⟩/\True/\b < w.1.size/\∀ k u,(ES.cells x)[k]? = some u->w.cell? ⟨b,off + (i * ES.sz + k),none⟩ = some u
theorem du (v )(l )(w )(hv : ey ES w v l) :
  Calls Tryz.prog 26 #[v] w λe w'=>e=.returned (.int .i64 (if Se.ok l=true then 0 else 4))/\Bw w w':=by
 obtain⟨M,N,rfl,E,F⟩:=hv.open;clear hv;unfold maxLen at E;obtain⟨n,z⟩:=qE l.length;rw[z]at E |-;have p:=hH z;have I:=hH F;obtain⟨r,A⟩:=qE (if Se.ok l=true then (0:Int) else 4);rw[A];have s:=hH A;clear z F A
 by_cases h6:n<=6
 ·have u : (n : Int) ≤ 6 := by omega
  have g:=hH<|show Se.ok l=Se.right 0 l by unfold Se.ok;rw[MT (by rw[p.out];exact h6),Bool.true_and]
  go_enter Tryz.func26,Tryz.ntmps26;go_wp2;go_loopw [3,11] (λt i R=>∃ (k:Nat) (t':Int),k<=n/\i=.int .i64 k/\t=.int .i64 t'/\0<=t'/\Hid (Se.right 0 l=Se.right t' (l.drop k))/\Hid (Bw w R)) (λ_ i _=>n-(intOf i).toNat)
  case atStart=>exact⟨0,0,MV _,rfl,rfl,Ng _,rfl,MJ _ _⟩
  case round =>
   obtain⟨k,t,S,rfl,rfl,O,B,d⟩:=hrel;have a:=d.out.size
   by_cases hlt:k<n
   ·obtain⟨x,f⟩ : ∃ x,l[k]?=some x := ⟨_,MF (by rw[p.out];exact hlt)⟩
    have j:=hH f;obtain⟨b,P,rfl,-,Q,G⟩:=I.out k x f;obtain⟨T,U,V⟩:=kC d Q G;clear G f;have D:(k:Int)<(n:Int):=qo
    have c:Hid (¬ Se.lL t x->r=4):=λC=>by
     have:=s.out;rw[g.out,B.out,Se.uf j C]at this;exact this.symm
    have m:Hid (Se.lL t x->Se.right 0 l=Se.right (x.1+1) (l.drop (k+1))):=λC=>B.out.trans (Se.rP j C)
    by_cases g1:t<=x.1/\x.1<=1099511627776
    ·have o : Hid (t ≤ x.1 ∧ x.1 ≤ 1099511627776) := g1
     by_cases g2:Se.Rq x.2.1
     ·have q : Hid (Se.Rq x.2.1) := g2
      by_cases g3:x.2.2.size<=8192
      ·have J := g1.2
       have K:=hH<|m.out ⟨g1,g2,g3⟩;have L:0<=x.1:=qo
       have y:¬ (8192:Int)<(x.2.2.size:Int):=qo
       clear g1 g2;go_wp2_with fail;refine (dD _ _ _ _ o).mono ?_;rintro e w' ⟨rfl,rfl⟩;go_wp2_with fail;refine (uO _ _ q).mono ?_;rintro e w' ⟨rfl,rfl⟩;go_wp2
       go_roundw
       case rel=>exact⟨k+1,x.1+1,qo,by go_num,by go_num,qo,K,d.alloc a _⟩
       case measure=>simp[intOf];omega
      ·have H : Hid (r=4) := c λh => g3 h.2.2
       have y:(8192:Int)<(x.2.2.size:Int):=qo
       clear g1 g2;go_wp2_with fail;refine (dD _ _ _ _ o).mono ?_;rintro e w' ⟨rfl,rfl⟩;go_wp2_with fail;refine (uO _ _ q).mono ?_;rintro e w' ⟨rfl,rfl⟩;go_wp2;go_ret;rw[H.out];exact⟨rfl,d.alloc a _⟩
     ·have H : Hid (r=4) := c λh => g2 h.2.1
      have q:=hH g2;clear g1 g2;go_wp2_with fail;refine (dD _ _ _ _ o).mono ?_;rintro e w' ⟨rfl,rfl⟩;go_wp2_with fail;refine (CF _ _ q).mono ?_;rintro e w' ⟨rfl,rfl⟩;go_wp2;go_ret;rw[H.out];exact⟨rfl,d.alloc a _⟩
    ·have H : Hid (r=4) := c λh => g1 h.1
     have o:=hH g1;clear g1;go_wp2_with fail;refine (ix _ _ _ _ o).mono ?_;rintro e w' ⟨rfl,rfl⟩;go_wp2;go_ret;rw[H.out];exact⟨rfl,d.alloc a _⟩
   ·obtain rfl : k=n := by omega
    have H:Hid (r=0):=by
     have:=s.out;rw[g.out,B.out,Se.se p.symm,MC rfl]at this;exact this.symm
    go_wp2;go_ret;rw[H.out];exact⟨rfl,d⟩
 ·have u : 6<(n : Int) := by omega
  have H:Hid (r=4):=by
   have:=s.out;unfold Se.ok at this;rw[MO (by rw[p.out];exact h6),Bool.false_and]at this;exact this.symm
  go_enter Tryz.func26,Tryz.ntmps26;go_wp2;go_ret;rw[H.out];exact⟨rfl,MJ _ _⟩
theorem dU (v)(l)(c)(w)(hv:ey ES w v l) :
  Calls Tryz.prog 52 #[v,.int .i64 c] w λe w'=>e=.returned (.int .i64 (Se.jx l c))/\Bw w w':=by
 have h:=hH hv;clear hv;rcases Se.CM l c with⟨a,b,f⟩ | ⟨a,b,f⟩ | ⟨a,b⟩
 ·have d : Hid ((if Se.ok l=true then (0 : Int) else 4)=0) := by show (if Se.ok l=true then (0 : Int) else 4)=0;rw[b];rfl
  have i:=hH f;rw[a];clear a b f;go_enter Tryz.func52,Tryz.ntmps52;go_wp2_with fail;refine (du v l _ h).mono ?_;rintro e j ⟨rfl,g⟩;rw[d.out];go_wp2_with fail;refine (dD _ _ _ _ i).mono ?_;rintro e w' ⟨rfl,rfl⟩;go_wp2;go_ret;exact⟨rfl,g⟩
 ·have d : Hid ((if Se.ok l=true then (0 : Int) else 4)=0) := by show (if Se.ok l=true then (0 : Int) else 4)=0;rw[b];rfl
  have i:=hH f;rw[a];clear a b f;go_enter Tryz.func52,Tryz.ntmps52;go_wp2_with fail;refine (du v l _ h).mono ?_;rintro e j ⟨rfl,g⟩;rw[d.out];go_wp2_with fail;refine (ix _ _ _ _ i).mono ?_;rintro e w' ⟨rfl,rfl⟩;go_wp2;go_ret;exact⟨rfl,g⟩
 ·have d : Hid ((if Se.ok l=true then (0 : Int) else 4)=4) := by show (if Se.ok l=true then (0 : Int) else 4)=4;rw[b];rfl
  rw[a];clear a b;go_enter Tryz.func52,Tryz.ntmps52;go_wp2_with fail;refine (du v l _ h).mono ?_;rintro e j ⟨rfl,g⟩;rw[d.out];go_wp2;go_ret;exact⟨rfl,g⟩
theorem gN (v)(l)(c r)(w)(hv:ey ES w v l) :
  Calls Tryz.prog 32 #[v,.int .i64 c,.int .i64 r] w λe w'=>e=.returned (.int .i64 (Se.fu l c r))/\Bw w w':=by
 have j:=hH hv;clear hv;rcases Se.tH l c r with⟨b,d,-,-,h⟩ | ⟨b,d,-,-,h⟩ | ⟨b,d⟩
 ·have g : Hid (Se.jx l c=0) := d
  have k:=hH h;rw[b];clear b d h;go_enter Tryz.func32,Tryz.ntmps32;go_wp2_with fail;refine (dU v l c _ j).mono ?_;rintro e m ⟨rfl,i⟩;rw[g.out];go_wp2_with fail;refine (uO _ _ k).mono ?_;rintro e w' ⟨rfl,rfl⟩;go_wp2;go_ret;exact⟨rfl,i⟩
 ·have g : Hid (Se.jx l c=0) := d
  have k:=hH h;rw[b];clear b d h;go_enter Tryz.func32,Tryz.ntmps32;go_wp2_with fail;refine (dU v l c _ j).mono ?_;rintro e m ⟨rfl,i⟩;rw[g.out];go_wp2_with fail;refine (CF _ _ k).mono ?_;rintro e w' ⟨rfl,rfl⟩;go_wp2;go_ret;exact⟨rfl,i⟩
 ·obtain⟨a,f⟩ : ∃ a,Se.jx l c=a := ⟨_,rfl⟩
  have g:=hH f;rw[f]at b d;rw[b];have n:=MQ.2 d;clear b d f;go_enter Tryz.func32,Tryz.ntmps32;go_wp2_with fail;refine (dU v l c _ j).mono ?_;rintro e m ⟨rfl,i⟩;rw[g.out];go_wp2;go_ret;exact⟨rfl,i⟩
end Go.Proofs.YtiifhfmekbhlnaaGreat.Es
namespace Go.Proofs.YtiifhfmekbhlnaaGreat.Ks.Rs
open ChangeShapes WideShapes ChangeAt RowKit Deep
theorem kh (lo x hi)(w):Calls Tryz.prog 147 #[.int .i64 lo,.int .i64 x,.int .i64 hi] w λe w'=>e=.returned (.bool (decide (lo<=x/\x<=hi)))/\w'=w:=by
 by_cases h1:lo<=x
 ·by_cases h2 : x ≤ hi
  ·rw[MT (show lo ≤ x ∧ x ≤ hi from⟨h1,h2⟩)]
   go_enter Tryz.func147,Tryz.ntmps147;go_wp2;go_ret;exact⟨rfl,rfl⟩
  ·rw[MO (show ¬ (lo ≤ x ∧ x ≤ hi) from λh => h2 h.2)]
   go_enter Tryz.func147,Tryz.ntmps147;go_wp2;go_ret;exact⟨rfl,rfl⟩
 ·rw[MO (show ¬ (lo ≤ x ∧ x ≤ hi) from λh => h1 h.1)]
  go_enter Tryz.func147,Tryz.ntmps147;go_wp2;go_ret;exact⟨rfl,rfl⟩
theorem eD (lo x hi)(w)(h:lo<=x/\x<=hi):Calls Tryz.prog 147 #[.int .i64 lo,.int .i64 x,.int .i64 hi] w λe w'=>e=.returned (.bool true)/\w'=w:=by
 have:=kh lo x hi w
 rwa [MT h]at this
theorem il (lo x hi)(w)(h:¬ (lo<=x/\x<=hi)):Calls Tryz.prog 147 #[.int .i64 lo,.int .i64 x,.int .i64 hi] w λe w'=>e=.returned (.bool false)/\w'=w:=by
 have:=kh lo x hi w
 rwa [MO h]at this
theorem mf {s:ByteArray}{a:Array UInt8}(h:s≠⟨a⟩):¬ s.toList=a.toList:=λe=>h (by
 rw[ND]at e
 cases s
 simp at e;rw[e])
theorem iX {w:World}(s)(p):Bw w (w.iter s p):=qG _ _
theorem jl (s )(w )(hm : s.size ≤ maxLen) : Calls Tryz.prog 143 #[.string s] w λe w' => e=.returned (.int .i64 (Nm.err s)) ∧ Bw w w' := by
 unfold maxLen at hm
 by_cases h1:1<=(s.size:Int)/\(s.size:Int)<=32
 ·have c : Hid (1 ≤ (s.size : Int) ∧ (s.size : Int) ≤ 32) := h1
  by_cases h2:s=⟨#[46]⟩
  ·have H : Hid (Nm.err s=409) := Nm.ir λh => h.2.2.1 h2
   rw[H.out];subst h2;go_enter Tryz.func143,Tryz.ntmps143;go_wp2_with fail;refine (eD _ _ _ _ c).mono ?_;rintro e w' ⟨rfl,rfl⟩;go_wp2;go_ret;exact⟨rfl,MJ _ _⟩
  ·by_cases h3 : s=⟨#[46,46]⟩
   ·have H : Hid (Nm.err s=409) := Nm.ir λh => h.2.2.2.1 h3
    rw[H.out];subst h3;go_enter Tryz.func143,Tryz.ntmps143;go_wp2_with fail;refine (eD _ _ _ _ c).mono ?_;rintro e w' ⟨rfl,rfl⟩;go_wp2;go_ret;exact⟨rfl,MJ _ _⟩
   ·have l : Hid (s≠⟨#[46]⟩ ∧ s≠⟨#[46,46]⟩) := ⟨h2,h3⟩
    have z:=MQ.2 (mf h2);have A:=MQ.2 (mf h3);clear h1 h2 h3;go_enter Tryz.func143,Tryz.ntmps143;go_wp2_with fail;refine (eD _ _ _ _ c).mono ?_;rintro e w' ⟨rfl,v⟩;obtain rfl:w=w':=v.symm;go_wp2;go_loopw [4] (λ_ j=>∃ pos:Nat,pos<=s.size/\j=w.iter s pos/\Nm.clean s pos) (λ_ j=>s.size-j.iterPos w.1.size)
    case atStart=>exact⟨0,MV _,rfl,Nm.pw s⟩
    case round =>
     obtain⟨pos,x,rfl,o⟩:=hrel;have m:=hH o;clear o
     by_cases hp:pos<s.size
     ·have f : ∀ g,(Instr.next (.pointer (some ⟨w.1.size,0,none⟩)) true g).run Tryz.prog (w.iter s pos)=_ := λg => run_next_any w s pos g hp
      obtain⟨y,i,-⟩:=Nm.jZ s pos hp;obtain⟨p,q⟩:=Nm.k9 s pos hp;have t:Hid ((Utf8.decode s pos).1≠47->(Utf8.decode s pos).1≠0->Nm.clean s (pos+(Utf8.decode s pos).2)):=λa b=>Nm.py hp m a b
      have n:Hid ((Utf8.decode s pos).1=47\/(Utf8.decode s pos).1=0->Nm.err s=409):=λa=>Nm.ir (Nm.rL hp (a.imp p.1 q.1))
      clear p q;generalize Utf8.decode s pos=d at *;obtain⟨r,k⟩:=d;simp only at *
      by_cases r1:r=47
      ·subst r1
       have H:=hH<|n.out (.inl rfl);go_wp2;go_ret;rw[H.out];exact⟨rfl,iX s _⟩
      ·by_cases r0 : r=0
       ·subst r0
        have H:=hH<|n.out (.inr rfl);go_wp2;go_ret;rw[H.out];exact⟨rfl,iX s _⟩
       ·have B : ((r : Int)==47)=false := MQ.2 qo
        have C:=MQ.2 qo;have u:=hH<|t.out r1 r0;go_wp2
        go_roundw
        case rel=>exact⟨pos+k,i,rfl,u⟩
        case measure =>
         simp only[World.iterPos_iter];omega
     ·have f : ∀ g,(Instr.next (.pointer (some ⟨w.1.size,0,none⟩)) true g).run Tryz.prog (w.iter s pos)=_ := λg => run_next_end w s pos g hp
      have H:=hH<|Nm.jP ⟨by have:=c.out.1;omega,by have:=c.out.2;omega,l.out.1,l.out.2,by
       have:=m.out
       rwa [show pos=s.size by omega]at this⟩
      go_wp2;go_ret;rw[H.out];exact⟨rfl,iX s _⟩
 ·have H : Hid (Nm.err s=409) := Nm.ir λh => h1 ⟨by have := h.1;omega,by have := h.2.1;omega⟩
  have c:=hH h1;rw[H.out];clear h1;go_enter Tryz.func143,Tryz.ntmps143;go_wp2_with fail;refine (il _ _ _ _ c).mono ?_;rintro e w' ⟨rfl,rfl⟩;go_wp2;go_ret;exact⟨rfl,MJ _ _⟩
end Go.Proofs.YtiifhfmekbhlnaaGreat.Ks.Rs
namespace Go.Proofs.YtiifhfmekbhlnaaGreat.Ks.Rs
open ChangeShapes WideShapes ChangeAt RowKit Deep
open Go.Proofs.YtiifhfmekbhlnaaGreat.Ks.Ak
abbrev VR (r:gw) (v:Value):Value:=.agg #[.int .i64 r.e,.int .i64 r.no,.int .i64 r.gen,.int .i64 r.k,.int .i64 r.l,.int .i64 r.s,.int .i64 r.t,.string r.data,v,.int .i64 r.n]
abbrev BR (r:gw) (v:Value):Obj:=.cells #[.int .i64 r.e,.int .i64 r.no,.int .i64 r.gen,.int .i64 r.k,.int .i64 r.l,.int .i64 r.s,.int .i64 r.t,.string r.data,v,.int .i64 r.n] 62
abbrev VE (x:eA):Value:=.agg #[.string x.1,.int .i64 x.2.1,.int .i64 x.2.2.1,.int .i64 x.2.2.2]
abbrev BE (x:eA):Obj:=.cells #[.string x.1,.int .i64 x.2.1,.int .i64 x.2.2.1,.int .i64 x.2.2.2] 116
theorem dK {w:World}{b:Nat}{r:gw}{v:Value}(h:w.1[b]?=some (BR r v)):w.cell? ⟨b,0,none⟩=some (.int .i64 r.e)/\w.cell? ⟨b,1,none⟩=some (.int .i64 r.no)/\w.cell? ⟨b,2,none⟩=some (.int .i64 r.gen)/\w.cell? ⟨b,3,none⟩=some (.int .i64 r.k)/\w.cell? ⟨b,4,none⟩=some (.int .i64 r.l)/\w.cell? ⟨b,5,none⟩=some (.int .i64 r.s)/\w.cell? ⟨b,6,none⟩=some (.int .i64 r.t)/\w.cell? ⟨b,7,none⟩=some (.string r.data)/\w.cell? ⟨b,8,none⟩=some v/\w.cell? ⟨b,9,none⟩=some (.int .i64 r.n):=by
 refine⟨?_,?_,?_,?_,?_,?_,?_,?_,?_,?_⟩ <;> simp[World.cell?,h]
theorem lS {w:World}{b:Nat}{x:eA}(h:w.1[b]?=some (BE x)):w.cell? ⟨b,0,none⟩=some (.string x.1)/\w.cell? ⟨b,1,none⟩=some (.int .i64 x.2.1)/\w.cell? ⟨b,2,none⟩=some (.int .i64 x.2.2.1)/\w.cell? ⟨b,3,none⟩=some (.int .i64 x.2.2.2):=by
 refine⟨?_,?_,?_,?_⟩ <;> simp[World.cell?,h]
theorem _root_.Go.Proofs.YtiifhfmekbhlnaaGreat.At.al {α:Type}{E:fY α}{S:Nat->Prop}{w:World}{v:Value}{l:List α}(h:At E S w v l)(o):At E S (w.alloc o) v l:=h.up (qG _ _)
theorem CN {w wr:World}{b off k:Nat}{x:eA}{B:Nat}(hc:∀ j u,(EE.cells x)[j]?=some u->w.cell? ⟨b,off+(k*EE.sz+j),none⟩=some u)(hb:Below B w wr)(hB:b<B) :
  wr.cell? ⟨b,off+k*4,none⟩=some (.string x.1)/\wr.cell? ⟨b,off+k*4+1,none⟩=some (.int .i64 x.2.1)/\wr.cell? ⟨b,off+k*4+2,none⟩=some (.int .i64 x.2.2.1)/\wr.cell? ⟨b,off+k*4+3,none⟩=some (.int .i64 x.2.2.2):=by
 have a:=λj u c=>(hb.cell (p:=⟨b,off+(k*EE.sz+j),none⟩) hB).trans (hc j u c)
 exact⟨a 0 _ rfl,a 1 _ rfl,a 2 _ rfl,a 3 _ rfl⟩
theorem fC (lo x hi)(b)(w)(h:Hid (decide (lo<=x/\x<=hi)=b)):Calls Tryz.prog 91 #[.int .i64 lo,.int .i64 x,.int .i64 hi] w λe w'=>e=.returned (.bool b)/\w'=w:=by
 rw[<-h.out];clear h
 by_cases h1:lo<=x
 ·by_cases h2 : x ≤ hi
  ·rw[MT (show lo ≤ x ∧ x ≤ hi from⟨h1,h2⟩)]
   go_enter Tryz.func91,Tryz.ntmps91;go_wp2;go_ret;exact⟨rfl,rfl⟩
  ·rw[MO (show ¬ (lo ≤ x ∧ x ≤ hi) from λh => h2 h.2)]
   go_enter Tryz.func91,Tryz.ntmps91;go_wp2;go_ret;exact⟨rfl,rfl⟩
 ·rw[MO (show ¬ (lo ≤ x ∧ x ≤ hi) from λh => h1 h.1)]
  go_enter Tryz.func91,Tryz.ntmps91;go_wp2;go_ret;exact⟨rfl,rfl⟩
theorem wW (no gen)(b)(w)(h:Hid (eE no gen=b)):Calls Tryz.prog 92 #[VH no gen] w λe w'=>e=.returned (.bool b)/\w'=w.alloc (BH no gen):=by
 by_cases h1:0<=no/\no<=255
 ·have a : Hid (decide (0 ≤ no ∧ no ≤ 255)=true) := MT h1
  have c:=hH<|show decide (0<=gen/\gen<=1099511627776)=b by
   rw[<-h.out];unfold eE lN;simp[h1]
  clear h h1;go_enter Tryz.func92,Tryz.ntmps92;go_wp2_with fail;refine (fC _ _ _ _ _ a).mono ?_;rintro e w' ⟨rfl,rfl⟩;go_wp2_with fail;refine (fC _ _ _ _ _ c).mono ?_;rintro e w' ⟨rfl,rfl⟩;go_wp2;go_ret;exact⟨rfl,rfl⟩
 ·have a : Hid (decide (0 ≤ no ∧ no ≤ 255)=false) := MO h1
  have c:=hH<|show b=false by rw[<-h.out];unfold eE lN;exact MO λd=>h1 d.1
  clear h h1;go_enter Tryz.func92,Tryz.ntmps92;go_wp2_with fail;refine (fC _ _ _ _ _ a).mono ?_;rintro e w' ⟨rfl,rfl⟩;go_wp2;go_ret;rw[c.out];exact⟨rfl,rfl⟩
theorem xm (k l s t y)(w)(h:Hid ((if At.right k l s t then (0) else 70)=y)):Calls Tryz.prog 93 #[VA k l s t] w λe w'=>e=.returned (.int .i64 y)/\w'=w.alloc (BA k l s t):=by
 rw[<-h.out]
 by_cases hr:At.right k l s t=true
 ·rw[MC hr];exact dF k l s t w hr
 ·rw[ME hr];exact jQ k l s t w (by simpa using hr)
namespace Re
theorem gR {l:List eA}{k:Nat}{x:eA}(h:l[k]?=some x):l.drop k=x::l.drop (k+1):=by
 obtain⟨a,rfl⟩:=MN.1 h;exact Ob a
end Re
theorem sd (v )(l )(w )(hv : ey EE w v l)(hs : ∀ x ∈ l, x.1.size ≤ maxLen) : Calls Tryz.prog 94 #[v] w λe w' => e=.returned (.bool (Re.wR l)) ∧ Bw w w' := by
 obtain⟨y,q⟩:=qE (Re.wR l);have U:=hH q;rw[q];clear q;obtain⟨ao,ab,rfl,W,X⟩:=hv.open;clear hv;unfold maxLen at W;obtain⟨n,S⟩:=qE l.length;rw[S]at W |-;have M:=hH S;have Y:=hH hs;have Z:=hH X;clear S X hs
 by_cases h64:64<n
 ·have H : Hid (y=false) := by show y=false;rw[<-U.out];exact Re.zW.2 (by rw[M.out];omega)
  have G:(64:Int)<(n:Int):=qo
  go_enter Tryz.func94,Tryz.ntmps94;go_wp2;go_ret;rw[H.out];exact⟨rfl,MJ _ _⟩
 ·have G : ¬ (64 : Int)<(n : Int) := by omega
  have N:=hH<|show y=true ↔ Re.lq 0 l by rw[<-U.out,Re.ot,M.out];exact⟨λh=>h.2,λh=>⟨qo,h⟩⟩
  go_enter Tryz.func94,Tryz.ntmps94;go_wp2;go_loopw [3,11] (λc i wr=>∃ (k:Nat) (d:Int),k<=n/\i=.int .i64 k/\c=.int .i64 d/\(0<=d/\d<=1099511627776)/\Hid (Re.lq 0 l ↔ Re.lq d (l.drop k))/\Hid (Bw w wr)) (λ_ i _=>n-(intOf i).toNat)
  case atStart=>exact⟨0,0,MV _,rfl,rfl,qo,by show _ ↔ _;rw[List.drop_zero],MJ _ _⟩
  case round =>
   obtain⟨k,d,hk,rfl,rfl,T,J,C⟩:=hrel;have t:=C.out.size
   by_cases hlt:k<n
   ·obtain⟨x,r⟩ : ∃ x,l[k]?=some x := ⟨_,MF (by rw[M.out];exact hlt)⟩
    have O:=hH<|Re.gR r;have z:=hH<|Y.out x (MG r);obtain⟨b,B,rfl,-,hB,K⟩:=Z.out k x r;obtain⟨c0,c1,c2,c3⟩:=CN K C hB;clear K r;obtain⟨s,g,D,j⟩:=x;simp only at c0 c1 c2 c3;have V:(k:Int)<(n:Int):=qo
    by_cases q1:d+1<=g/\g<=1099511627776
    case neg =>
     have I:=hH<|MO q1;have H:=hH<|show y=false by
      rw[ON];intro q;have:=J.out.1 (N.out.1 q);rw[O.out]at this;exact q1 this.1.1
     clear q1;go_wp2_with fail;refine (fC _ _ _ _ _ I).mono ?_;rintro e w' ⟨rfl,rfl⟩;go_wp2;go_ret;rw[H.out];exact⟨rfl,C.alloc t _⟩
    have I:=hH<|MT q1;rcases Nm.og s with⟨E,a⟩ | ⟨E,a⟩
    case inr =>
     have o:=hH E;have H:=hH<|show y=false by
      rw[ON];intro q;have:=J.out.1 (N.out.1 q);rw[O.out]at this;exact a this.1.2.1
     clear E a;go_wp2_with fail;refine (fC _ _ _ _ _ I).mono ?_;rintro e w' ⟨rfl,rfl⟩;go_wp2_with fail;refine (jl s _ z.out).mono ?_;rintro e L ⟨rfl,f⟩;rw[o.out];go_wp2;go_ret;rw[H.out];exact⟨rfl,(C.out.alloc t _).trans (f.mono (by simp;omega))⟩
    have o:Hid (Nm.err s=0):=E;have A:Hid ((wr.alloc (BE (s,g,D,j))).1[wr.1.size]?=some (BE (s,g,D,j))):=MD wr _;have p:Hid (Bw w (wr.alloc (BE (s,g,D,j)))):=C.out.alloc t _
    by_cases q3:lN D j
    case neg =>
     have P:=hH<|MO q3;have H:=hH<|show y=false by
      rw[ON];intro q;have:=J.out.1 (N.out.1 q);rw[O.out]at this;exact q3 this.1.2.2
     clear E a q3;go_wp2_with fail;refine (fC _ _ _ _ _ I).mono ?_;rintro e w' ⟨rfl,rfl⟩;go_wp2_with fail;refine (jl s _ z).mono ?_;rintro e L ⟨rfl,f⟩;rw[o.out];obtain⟨d0,d1,d2,d3⟩:=lS (dI A f);have m:=qJ p f;clear f;go_wp2_with fail;refine (wW _ _ _ _ P).mono ?_;rintro e w3 ⟨rfl,rfl⟩;go_wp2;go_ret;rw[H.out];exact⟨rfl,m.alloc m.size _⟩
    have P:=hH<|MT q3;have Q:=hH<|show Re.lq 0 l ↔ Re.lq g (l.drop (k+1)) by
     rw[J.out,O.out];exact⟨λh=>h.2,λh=>⟨⟨q1,a,q3⟩,h⟩⟩
    have R:0<=g/\g<=1099511627776:=qo
    clear E a q3 q1;go_wp2_with fail;refine (fC _ _ _ _ _ I).mono ?_;rintro e w' ⟨rfl,rfl⟩;go_wp2_with fail;refine (jl s _ z).mono ?_;rintro e L ⟨rfl,f⟩;rw[o.out];obtain⟨d0,d1,d2,d3⟩:=lS (dI A f);have m:=qJ p f;have aa:=dC (dI A f);clear f;go_wp2_with fail;refine (wW _ _ _ _ P).mono ?_;rintro e w3 ⟨rfl,rfl⟩;go_wp2
    go_roundw
    case rel=>exact⟨k+1,g,qo,by go_num,rfl,R,Q,m.alloc m.size _⟩
    case measure=>simp[intOf];omega
   ·obtain rfl : k=n := by omega
    have H:Hid (y=true):=by
     refine N.out.2 (J.out.2 ?_);rw[List.drop_of_length_le (by rw[M.out];exact MI _)]
     trivial
    go_wp2;go_ret;rw[H.out];exact⟨rfl,C⟩
theorem mq (r : gw)(v )(w )(y : Int)(hv : ey EE w v r.cE)(hs : ∀ x ∈ r.cE, x.1.size ≤ maxLen)(h : Hid ((if Re.right r then (0 : Int) else 4)=y)) : Calls Tryz.prog 59 #[VR r v] w λe w' => e=.returned (.int .i64 y) ∧ Bw w w' := by
 obtain⟨e,g,c,k,l,s,t,a,m,n⟩:=r;have o:=hv;obtain⟨u,i,rfl,C,L⟩:=o.open;clear o;unfold maxLen at C;obtain⟨z,A⟩:=qE m.length;rw[A]at C hv |-;have N:Hid (m.length=z):=A;have E:Hid (ey EE w (.slice u z i) m):=hv;have F:Hid (∀ x∈m,x.1.size<=maxLen):=hs;clear A hv hs L;obtain⟨W,M⟩:=qF (w.alloc (BR ⟨e,g,c,k,l,s,t,a,m,n⟩ (.slice u z i)));clear W M;have b:Hid (¬ Re.dN ⟨e,g,c,k,l,s,t,a,m,n⟩->y=4):=λd=>by
  rw[<-h.out,Re.iy.2 d];rfl
 have p:Hid (Re.dN ⟨e,g,c,k,l,s,t,a,m,n⟩->y=0):=λd=>by
  rw[<-h.out,Re.cG.2 d];rfl
 clear h
 by_cases h0:0<=e/\e<=65535
 case' neg =>
  have f:Hid (y=4):=b.out λd=>h0 d.1
  have G:Hid (decide (0<=e/\e<=65535)=false):=MO h0
 case' pos =>
  have G:Hid (decide (0<=e/\e<=65535)=true):=MT h0
  by_cases h1:lN g c
  case' neg =>
   have f:Hid (y=4):=b.out λd=>h1 d.2.1
   have H:Hid (eE g c=false):=MO h1
  case' pos =>
   have H:Hid (eE g c=true):=MT h1
   by_cases h2:At.right k l s t=true
   case' neg =>
    have f:Hid (y=4):=b.out λd=>h2 d.2.2.1
    have I:Hid ((if At.right k l s t then (0:Int) else 70)=70):=ME h2
   case' pos =>
    have I:Hid ((if At.right k l s t then (0:Int) else 70)=0):=MC h2
    by_cases h3:a.size<=512
    case' neg =>
     have f:=hH<|b.out λd=>h3 d.2.2.2.1
     have J:¬ ((a.size:Int)<=512):=qo
    case' pos =>
     have J:((a.size:Int)<=512):=qo
     by_cases h4:m.length<=64/\Re.lq 0 m
     case' neg =>
      have f:=hH<|b.out λd=>h4 d.2.2.2.2.1
      have B:=hH<|Re.zW.2 h4
     case' pos =>
      have B:=hH<|Re.ot.2 h4
      by_cases h5:0<=n/\n<=1099511627776
      case' neg =>
       have f:=hH<|b.out λd=>h5 d.2.2.2.2.2
       have K:=hH<|MO h5
      case' pos =>
       have f:=hH<|p.out ⟨h0,h1,h2,h3,h4,h5⟩;have K:=hH<|MT h5
 all_goals
  (try clear h5)
  (try clear h4)
  (try clear h3)
  (try clear h2)
  (try clear h1)
  clear h0 b p;go_enter Tryz.func59,Tryz.ntmps59
  go_wp2_with (first
  | (go_at_call 91;refine (fC _ _ _ _ _ qa).mono ?_;rintro e w' ⟨rfl,rfl⟩)
  | (go_at_call 92;refine (wW _ _ _ _ qa).mono ?_;rintro e w' ⟨rfl,rfl⟩)
  | (go_at_call 93;refine (xm _ _ _ _ _ _ qa).mono ?_;rintro e w' ⟨rfl,rfl⟩))
  try
   refine (sd _ m _ (((E.al _).al _).al _) F).mono ?_;rintro e D ⟨rfl,j⟩;rw[B.out];have O:=(dK (dI ((ML _ _ _ qt).trans ((ML _ _ _ qs).trans (MD w (BR ⟨e,g,c,k,l,s,t,a,m,n⟩ (.slice u z i))))) j)).2.2.2.2.2.2.2.2.2;have q:=hH<|(((qG _ _).alloc qs _).alloc qt _).trans (j.mono qt);clear j
   go_wp2_with (first
  | (go_at_call 91;refine (fC _ _ _ _ _ qa).mono ?_;rintro e w' ⟨rfl,rfl⟩)
  | (go_at_call 92;refine (wW _ _ _ _ qa).mono ?_;rintro e w' ⟨rfl,rfl⟩)
  | (go_at_call 93;refine (xm _ _ _ _ _ _ qa).mono ?_;rintro e w' ⟨rfl,rfl⟩))
  go_ret;rw[f.out];exact⟨rfl,by first | exact qG _ _ | exact (qG _ _).alloc qs _ | exact ((qG _ _).alloc qs _).alloc qt _ | exact q⟩
end Go.Proofs.YtiifhfmekbhlnaaGreat.Ks.Rs
namespace Go.Proofs.YtiifhfmekbhlnaaGreat.Ks
namespace App
open RowKit
section
variable {P:Program} (w:World)
theorem Ha {size:Nat}(t tx ty e:TypeId)(i:TypeInfo)(hsz:i.size=size)(ht:P.underlying t=some (.slice e))(hi:P.info? e=some i)(g sLen sCap)(cur)(hg:w.1[g]?=some (.cells cur e (0,0)))(x)(m)(news)(hs:Src P size tx x m news w)(hroom:sLen+m<=sCap)(hfit:sLen*i.size+news.length<=cur.size) :
  (Builtin.append_ #[t,tx] ty #[.slice (some ⟨g,0,none⟩) sLen sCap,x]).run P w =
   .ok (.slice (some ⟨g,0,none⟩) (sLen+m) sCap) (w.setRow g (cur.toList.take (sLen*i.size)++news++cur.toList.drop (sLen*i.size+news.length)).toArray):=by
 subst hsz;have a:=run_storeCells_at P g (sLen*i.size) e news 0 cur w hg (by simpa using hfit) hs.one;simp only[Nat.add_zero]at a;rcases hs.kind with⟨c,b⟩ | b <;> simp[Builtin.append_,run_underlying ht,run_underlying b,sizeOf,typeInfo,hi,hs.len,hroom,hs.cells,Addr.add_lit,a]
theorem IJ (base )(t tx ty e : TypeId)(i : TypeInfo)(z )(size bytes )(ht : P.underlying t=some (.slice e))(hi : P.info? e=some i)(hz : i.zero=some z)(hsize:i.size=size)(hby:i.bytes=bytes)(hzs:z.cells.size=size)(v)(n)(xs)(hown:w.ownsRow base e size v n xs)(x)(m)(news)(hs:Src P size tx x m news w)(h63:n+m<=maxLen)(ek:(n+m)*bytes<=140737488355328)(hbase:base<=w.1.size) :
  ∃ v' w',(Builtin.append_ #[t,tx] ty #[v,x]).run P w=.ok v' w'/\w'.ownsRow base e size v' (n+m) (xs++news)/\w.grownBy w' v.ownBlock:=by
 subst hsize;subst hby;have A:n+m<=9223372036854775807:=by simp only[maxLen]at h63;omega
 have B:=hs.newsLen;have a:(xs++news).length=(n+m)*i.size:=by rw[MW,hown.1,B,O6]
 have f:∀ (b:Nat),b<n+m->∀ (y:Option Nat),
   (w.drew.alloc (.cells ((xs++news).toArray++Builtin.zeroCells z.cells (grownCap w (n+m) b e-(n+m))) e)).ownsRow base e i.size
    (.slice (some ⟨w.1.size,0,none⟩) (n+m) (grownCap w (n+m) b e)) (n+m) (xs++news) /\
   w.grownBy (w.drew.alloc (.cells ((xs++news).toArray++Builtin.zeroCells z.cells (grownCap w (n+m) b e-(n+m))) e)) y:=by
  intro b J y;have C:=grownCap_ge w (n+m) b e;have h:=grownCap_le_maxLen w (n+m) b e h63;refine⟨⟨a,.inr ⟨w.1.size,_,_,rfl,hbase,MD w.drew _,C,h,?_,?_⟩⟩,⟨rfl,rfl,rfl,qs,λk r _=>ML w.drew _ k r⟩⟩
  ·simp only[Array.size_append,List.size_toArray,size_zeroCells,hzs,a,<-Nat.add_mul]
   congr 1
   omega
  ·simp only[Array.toList_append]
   rw[<-a];exact List.take_left
 rcases hown.2 with⟨rfl,rfl⟩ | ⟨g,d,o,rfl,D,F,I,h,E,p⟩
 ·have G : xs=[] := MX (by simpa using hown.1)
  subst G
  by_cases hm:m=0
  ·subst hm
   have H:=MX (by simpa using B);subst H;refine⟨.slice none 0 0,w,?_,NH w base e i.size,⟨rfl,rfl,rfl,qn,λ_ _ _=>rfl⟩⟩;rcases hs.kind with⟨K,r⟩ | r <;> simp[Builtin.append_,run_underlying ht,run_underlying r,sizeOf,typeInfo,hi,hs.len,hs.cells]
  ·have q := run_append_grow_src (P := P) w t tx ty e i z ht hi hz none 0 0 [] (run_firstCells_none w.drew _ _ _ _) x m news hs qo qo (growslice_fits qo ek)
   have c:=f 0 qo (Value.ownBlock (.slice none 0 0));simp only[Nat.zero_add,List.nil_append]at c q |-;exact⟨_,_,q,c.1,c.2⟩
 ·by_cases hroom : n+m ≤ d
  ·have s : n*i.size+news.length ≤ o.size := by rw[B,E,<-O6];exact Og _ hroom
   have q:=Ha (P:=P) w t tx ty e i rfl ht hi g n d o F x m news hs hroom s;refine⟨_,_,q,⟨a,.inr ⟨g,d,_,rfl,D,O1 w g o _ e _ F,hroom,h,?_,?_⟩⟩,⟨rfl,rfl,rfl,qs,λk _ r=>setRow_other w g k _ (λe=>r (by simp[Value.ownBlock,e]))⟩⟩
   ·simp only[List.size_toArray,List.length_append,List.length_take,List.length_drop,Array.length_toList]
    omega
   ·rw[p,<-a]
    exact List.take_left
  ·have l : ∀ j u,xs[j]?=some u → w.cell? ((⟨g,0,none⟩ : Addr).add j)=some u := hown.cells (g := g) rfl
   have q:=run_append_grow_src (P:=P) w t tx ty e i z ht hi hz (some ⟨g,0,none⟩) n d xs (run_firstCells_some w.drew _ _ _ _ _ xs hown.1 (by simpa using l)) x m news hs qo qo (growslice_fits qo ek);have c:=f d qo (Value.ownBlock (.slice (some ⟨g,0,none⟩) n d));exact⟨_,_,q,c.1,c.2⟩
theorem B3 {ops:Array Oper}{rest:List Oper}{o:Oper}{a:Act}{Q:Exit->Act->World->Prop}(hgd:o.guard=none)(s x:Operand)(t tx:TypeId)(ho:o.op=.call { callee:=.builtin .append,args:=#[s,x],argTypes:=#[t,tx] })(base)(e:TypeId)(i:TypeInfo)(z)(size bytes)(ht:P.underlying t=some (.slice e))(hi:P.info? e=some i)(hz:i.zero=some z)(hsize:i.size=size)(hby:i.bytes=bytes)(hzs:z.cells.size=size)(v)(n)(xs)(hv:a.eval s=v)(hown:w.ownsRow base e size v n xs)(xv)(m)(news)(hx:a.eval x=xv)(hs:Src P size tx xv m news w)(h63:n+m<=maxLen)(ek:(n+m)*bytes<=140737488355328)(hbase:base<=w.1.size)(h:∀ v' w',w'.ownsRow base e size v' (n+m) (xs++news)->w.grownBy w' v.ownBlock->wpList P ops Q rest (a.put o.dst v') w'):wpList P ops Q (o::rest) a w :=
  OF hgd λ_ f=>by
    obtain⟨v',w',b,c,d⟩:=IJ (P:=P) w base t tx o.type e i z size bytes ht hi hz hsize hby hzs v n xs hown xv m news hs h63 ek hbase;unfold Oper.wp execOp;simp only[ho,resolve,invoke,builtin,Sem.run_bind,Sem.run_pure,Result.andThen_ok,List.map_toArray,List.map_cons,List.map_nil,hv,hx,b];exact f _ _ (h v' w' c d)
end
theorem gJ {w w':World}{base:Nat}{e size:Nat}{v:Value}{n:Nat}{xs:List Value}(h:w.ownsRow base e size v n xs)(hg:w.grownBy w' v.ownBlock){b:Nat}{c:Array Value}{t:TypeId}{fr:Nat × Nat}(hb:w.1[b]?=some (.cells c t fr))(hne:t≠e):w'.1[b]?=some (.cells c t fr):=by
 have d:b<w.1.size:=by
  rcases Ow b w.1.size with f | f
  ·exact f
  ·rw[NM f]at hb;cases hb
 rw[hg.block b d ?_,hb];intro a;rcases h.2 with⟨rfl,_⟩ | ⟨g,k,l,rfl,m,i,o,p,q,j⟩
 ·simp[Value.ownBlock]at a
 ·simp only[Value.ownBlock,Option.some.injEq]at a
  subst a;rw[i]at hb;simp at hb;exact hne hb.2.1.symm
theorem nE {w:World}{b:Nat}{x y:Value}{t:TypeId}{fr:Nat × Nat}(hb:w.1[b]?=some (.cells #[x,y] t fr)):w.cell? ⟨b,0,none⟩=some x/\w.cell? ⟨b,1,none⟩=some y:=by
 constructor <;> simp[World.cell?,hb]
theorem jM (W:World)(g:Nat)(hg:g=W.1.size)(a b c:Value) (T:TypeId):∀ j u,[a,b,c][j]?=some u->(W.alloc (.cells #[a,b,c] T)).cell? ((⟨g,0,none⟩:Addr).add j)=some u:=by
 subst hg;intro j u d;rw[Go.WideShapes.add_plain]
 match j,d with
 | 0,d=>simp at d;subst d;simp
 | 1,d=>simp at d;subst d;simp
 | 2,d=>simp at d;subst d;simp
theorem my (W:World)(g:Nat)(hg:g=W.1.size)(a b:Value) (T:TypeId):∀ j u,[a,b][j]?=some u->(W.alloc (.cells #[a,b] T)).cell? ((⟨g,0,none⟩:Addr).add j)=some u:=by
 subst hg;intro j u c;rw[Go.WideShapes.add_plain]
 match j,c with
 | 0,c=>simp at c;subst c;simp
 | 1,c=>simp at c;subst c;simp
theorem Mg (a b c):∀ u∈[Value.int .u8 a,.int .u8 b,.int .u8 c],u.oneCell'=true:=by
 intro u d;simp at d;rcases d with rfl | rfl | rfl <;> rfl
theorem Bn (a)(s):∀ u∈[Value.int .i64 a,.string s],u.oneCell'=true:=by
 intro u b;simp at b;rcases b with rfl | rfl <;> rfl
end App
end Go.Proofs.YtiifhfmekbhlnaaGreat.Ks
