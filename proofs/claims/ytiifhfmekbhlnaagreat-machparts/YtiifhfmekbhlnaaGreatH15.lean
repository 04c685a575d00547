/- Part 15. -/
import Derived.Test.YtiifhfmekbhlnaaGreatH14
set_option maxHeartbeats 8000000
set_option maxRecDepth 100000
set_option linter.unusedSimpArgs false
namespace Go.Proofs.YtiifhfmekbhlnaaGreat
open ChangeShapes WideShapes ChangeAt RowKit Deep It
theorem Hh {base:Nat}{w:World}{v:Value}{e:TypeId}{l:List (Int × ByteArray)}(h:w.ownsRow base e 2 v l.length (Bs.cellsOf l)):At ER (λb=>base<=b) w v l:=by
 have a:=h.lt;rcases h.2 with⟨rfl,n⟩ | ⟨g,c,o,rfl,d,r,f,i,p,k⟩
 ·exact .inl ⟨none,0,rfl,MX n⟩
 ·by_cases hp:0<l.length
  ·refine .inr ⟨g,0,c,rfl,d,(a g rfl).2,hp,f,i,λj u q=>?_⟩;have m:=h.cells (g:=g) rfl j u q;rw[Nu]at m;simpa using m
  ·have:l=[]:=MX (by omega);subst this;exact .inl ⟨_,_,rfl,rfl⟩
theorem Ao {l:List (Int × ByteArray)}(h:Bs.Bl.right (-1) l):dQ l/\l.length<=5864062014805:=by
 have c:=Bs.Bl.ks h qd;have d:Bs.Bl.Cv=1048576:=rfl;refine⟨λr b=>?_,qo⟩;have a:=Bs.Bl.jk h r b;unfold Bs.Bl.ee at a;unfold maxLen;omega
theorem wz {l:List (Int × ByteArray)}{s:Int}(h:Bs.Bl.right (-1) l):Bs.Bl.right (-1) (Bs.Bl.within 0 s l):=by
 have f:∀ (l:List Bs.Bl.R) (a c:Int),Bs.Bl.right a l->c<=a->Bs.Bl.right c (Bs.Bl.within 0 s l):=by
  intro l
  induction l with
  | nil=>intro a c _ _;trivial
  | cons r l ih =>
   intro a c h j;obtain⟨⟨k,m,n⟩,d⟩:=h;have g:a<=Bs.Bl.ee r:=by unfold Bs.Bl.ee;omega
   cases hq:Bs.Bl.clip 0 s r with
   | none =>
    have e:Bs.Bl.within 0 s (r::l)=Bs.Bl.within 0 s l:=by simp[Bs.Bl.within,hq]
    rw[e];exact ih _ _ d qo
   | some q =>
    have e:Bs.Bl.within 0 s (r::l)=q::Bs.Bl.within 0 s l:=by simp[Bs.Bl.within,hq]
    rw[e];obtain⟨o,i,p⟩:=Bs.Bl.mg hq;have b:Bs.Bl.ee q<=Bs.Bl.ee r:=qo
    refine⟨⟨qo,qo,?_⟩,ih _ _ d b⟩;unfold Bs.Bl.ee at i b;omega
 exact f l _ _ h (Ng _)
theorem IL (l)(s):dQ (Bs.Bl.o5 l s)/\(Bs.Bl.o5 l s).length<=5864062014805:=by
 unfold Bs.Bl.o5
 by_cases h:Bs.Bl.jx l s=0
 ·rw[MC h];unfold Bs.Bl.jx at h
  by_cases a:Bs.Bl.right (-1) l
  ·exact Ao (wz a)
  ·rw[ME a]at h;simp at h
 ·rw[ME h];exact⟨λr a=>by simp at a,qs⟩
namespace Nf
noncomputable def C4 (x:cL) (c:fw) (dn:Int):cL:={ x with size:=c.pl,cF:=dn,runs:=Bs.Bl.o5 x.runs c.pl }
noncomputable def gE (x:cL) (n dn:Int):Int:=At.eK x.kind x.cH x.size x.cF n dn
noncomputable def KS (L:List cL) (c:fw) (dn:Int):Value :=
 if gK L c.no c.gen 1 405=0 then
  if gE (cY L c.no c.gen) c.pl dn=0 then nr (dM L c.no c.gen (C4 (cY L c.no c.gen) c dn)) 0 0 (cY L c.no c.gen).kind (cY L c.no c.gen).cH c.pl dn ⟨#[]⟩ (.slice none 0 0) 0
  else iM (gE (cY L c.no c.gen) c.pl dn)
 else iM (gK L c.no c.gen 1 405)
noncomputable def Gw (L:List cL) (c:fw) (dn:Int):List cL :=
 if gK L c.no c.gen 1 405=0 then if gE (cY L c.no c.gen) c.pl dn=0 then IA L c.no c.gen (C4 (cY L c.no c.gen) c dn) else L else L
end Nf
theorem Ib {S:Nat->Prop}(vi vo vs)(dn cl)(c)(L)(B)(w)(hB:w.1[B]?=some (gj vi vo vs dn cl c))(hv:cD S w vi L) :
  Calls Tryz.prog 134 #[.pointer (some ⟨B,0,none⟩)] w λe w'=>∃ u,e=.returned (Nf.KS (pl L) c dn)/\w'.1[B]?=some (gj u vo vs dn cl c)/\Nf.vJ (w.1.size+1) w' vi u (pl L) (Nf.Gw (pl L) c dn)/\w.grownBy w' (some B):=by
 have aY:=(qL hB);obtain⟨W,hW⟩:=qF (w.alloc fJ);have I:Hid _:=qB hW;have ap:Hid _:=qC hW;have aa:=qK I hB;have HV:=hH<|(hv.imp (λ_ _ hl=>hl)).up I;have bt:=(qL ap);have bu:=(qL aa);have J:B≠w.1.size:=qo
 obtain⟨R,g⟩:=qE (Nf.KS (pl L) c dn);obtain⟨T,n⟩:=qE (Nf.Gw (pl L) c dn);rw[g,n];unfold Nf.KS at g;unfold Nf.Gw at n;obtain⟨fe,ay⟩:=qE (Nf.gK (pl L) c.no c.gen 1 405);have HF:=hH ay;rw[ay]at g n;have ab:=hH g;have ac:=hH n;clear hv hB ay g n;go_enter Tryz.func134,Tryz.ntmps134;go_wp2_with fail;rw[<-hW];clear hW;refine (oh vi vo vs dn cl c L B W aa HV).mono ?_;rintro e w1 ⟨x,rfl,az,aR,Z⟩;rw[HF.out]at az |-;obtain⟨Y,hY⟩:=qF (w1.alloc (jC x));have aq:Bw w1 Y:=by rw[hY];exact qG _ _
 have M:=Z.trans (aq.mono Z.size);have N:=qJ I M;have HZ:=qK M ap;have O:=qK M aa;have j:Hid _:=qC hY;have HG:=hH<|(aR.imp (λ_ _ hl=>hl)).up aq;have aC:=hH<|HV.out.up M;have ar:=hH az;have aZ:=(qL HZ);have ba:=(qL O);have aD:w.1.size<w1.1.size:=by have:=Z.size;omega
 have bb:B<w1.1.size:=by have:=Z.size;omega
 have aE:=(qL j);clear Z aq M aR az ap aa HV I
 by_cases h0:fe=0
 ·obtain⟨X,hX⟩:=qE w1.1.size;have ad:=ar.out;rw[MC h0]at ad;obtain⟨ge,z⟩:=qE (Nf.gE x.i c.pl dn);have af:Hid ((if ge=0 then nr (dM (pl L) c.no c.gen (Nf.C4 x.i c dn)) 0 0 x.i.kind x.i.cH c.pl dn ⟨#[]⟩ (.slice none 0 0) 0 else iM ge)=R):=by
   have:=ab.out;rw[MC h0,<-ad,z]at this;exact this
  have ag:Hid ((if ge=0 then Nf.IA (pl L) c.no c.gen (Nf.C4 x.i c dn) else pl L)=T):=by
   have:=ac.out;rw[MC h0,<-ad,z]at this;exact this
  subst h0;obtain⟨K1,K2,K3,K4,aS,aT⟩:∃ K1 K2 K3 K4,At.kv x.i.kind x.i.cH x.i.size x.i.cF c.pl dn=VA K1 K2 K3 K4/\(ge=0->K1=x.i.kind/\K2=x.i.cH/\K3=c.pl/\K4=dn):=by
   unfold Nf.gE at z;unfold At.kv;rw[z]
   by_cases hz:ge=0
   ·rw[MC hz];exact⟨_,_,_,_,rfl,λ_=>⟨rfl,rfl,rfl,rfl⟩⟩
   ·rw[ME hz];exact⟨_,_,_,_,rfl,λh=>absurd h hz⟩
  have au:=hH aT;have HC:Hid (∀ V:World,Calls Tryz.prog 160 #[VA x.i.kind x.i.cH x.i.size x.i.cF,.int .i64 c.pl,.int .i64 dn] V λe w'=>e=.returned (.tuple #[VA K1 K2 K3 K4,.int .i64 ge])/\Bw V w'):=λV=>by
   have:=uV x.i.kind x.i.cH x.i.size x.i.cF c.pl dn V;unfold Nf.gE at z;rw[aS,z]at this;exact this
  clear ad ar ab ac z aS aT HF;go_wp2_with fail;rw[<-hY];clear hY;rw[hX]at j HG aD bb aE
  (try rw[hX])
  have P:Hid (∀ V:World,Bw Y V->V.cell? ⟨X,1,none⟩=some (.int .i64 x.i.kind)/\V.cell? ⟨X,2,none⟩=some (.int .i64 x.i.cH)/\V.cell? ⟨X,3,none⟩=some (.int .i64 x.i.size)/\V.cell? ⟨X,4,none⟩=some (.int .i64 x.i.cF)/\V.cell? ⟨B,12,none⟩=some (.int .i64 c.pl)/\V.cell? ⟨B,3,none⟩=some (.int .i64 dn)):=λV h=>by
   obtain⟨-,-,-,t3,-,-,-,-,-,-,-,-,aA,-,-⟩:=gh O;have k1:=cJ j 1;have k2:=cJ j 2;have k3:=cJ j 3;have k4:=cJ j 4;simp at k1 k2 k3 k4;exact⟨cC k1 h,cC k2 h,cC k3 h,cC k4 h,cC aA h,cC t3 h⟩
  clear hX;refine NX qk ?_;change wpAny _ _ _ _ _ _ _ (World.drew _);refine qV (i:=0) rfl ?_
  try simp only[qS]
  refine qV (i:=2) rfl ?_
  try simp only[qS]
  refine qV (i:=3) rfl ?_
  try simp only[qS]
  refine qV (i:=4) rfl ?_
  try simp only[qS]
  refine qV (i:=5) rfl ?_
  try simp only[qS]
  refine qV (i:=7) rfl ?_
  try simp only[qS]
  refine qV (i:=8) rfl ?_
  try simp only[qS]
  refine qV (i:=9) rfl ?_
  try simp only[qS]
  refine qV (i:=10) rfl ?_
  try simp only[qS]
  have HS:=P.out _ (cX (MJ _ _));refine Fst.iu (late:=λk=>[12,13,14,15,16,17,18].contains k) (S:=λV:World=>V.cell? ⟨X,1,none⟩=some (.int .i64 x.i.kind)/\V.cell? ⟨X,2,none⟩=some (.int .i64 x.i.cH)/\V.cell? ⟨X,3,none⟩=some (.int .i64 x.i.size)/\V.cell? ⟨X,4,none⟩=some (.int .i64 x.i.cF)/\V.cell? ⟨B,12,none⟩=some (.int .i64 c.pl)/\V.cell? ⟨B,3,none⟩=some (.int .i64 dn)) _ _ _ _ ?_;refine Fst.tk (ls:=[12,13,14,15,16,17,18]) (i:=1) (v:=?v10) rfl (Or.inl ⟨by rfl,?h10⟩) HS ?r10
  case h10=>(rintro V ⟨s1,s2,s3,s4,al,s0⟩;go_simp;try with_reducible rfl)
  try simp only[qS]
  refine Fst.tk (ls:=[12,13,14,15,16,17,18]) (i:=6) (v:=?v11) rfl (Or.inl ⟨by rfl,?h11⟩) HS ?r11
  case h11=>(rintro V ⟨s1,s2,s3,s4,al,s0⟩;go_simp;try with_reducible rfl)
  try simp only[qS]
  refine Fst.tk (ls:=[12,13,14,15,16,17,18]) (i:=11) (v:=?v12) rfl (Or.inl ⟨by rfl,?h12⟩) HS ?r12
  case h12=>(rintro V ⟨s1,s2,s3,s4,al,s0⟩;go_simp;try with_reducible rfl)
  try simp only[qS]
  refine Fst.rest qk ?_;refine Nc (rs:=[12]) qk qs ?_;refine M7 rfl (λK C=>?_) M9
  go_simp
  refine (HC _).mono ?_;rintro e w5 ⟨rfl,aU⟩;have d:=dH aU;have aF:=hH<|N.out.trans (d.mono N.size);have aG:=qK d O;have aH:=qK d HZ;have l:=qK d j;have aI:=hH<|HG.out.up d;have aJ:=hH<|aC.out.up d;have bc:=(qL l);have k1:=cJ l 1;have k2:=cJ l 2;have k3:=cJ l 3;have k4:=cJ l 4;have kf:=dw l;simp at k1 k2 k3 k4;clear aU d HC P HS N O HZ j HG aC aZ ba aE
  (try go_wp2_with fail)
  first | (refine C _ _ ?_;clear C K) | skip
  try simp only[qS]
  refine qV (i:=13) rfl ?_
  try simp only[qS]
  refine qV (i:=14) rfl ?_
  try simp only[qS]
  refine qV (i:=15) rfl ?_
  try simp only[qS]
  refine qV (i:=16) rfl ?_
  try simp only[qS]
  refine Nc (rs:=[17]) qk qs ?_;refine M7 rfl (λK C=>?_) M9
  go_simp
  (try go_wp2_with fail)
  first | (refine C _ _ ?_;clear C K) | skip
  try simp only[qS]
  refine Nc (rs:=[18]) qk qs ?_;refine M7 rfl (λK C=>?_) M9
  go_simp
  (try go_wp2_with fail)
  first | (refine C _ _ ?_;clear C K) | skip
  try simp only[qS]
  refine N1 qk ?_ _;obtain⟨G,am⟩:=qF ((((w5.setCell ⟨X,1,none⟩ (.int .i64 K1)).setCell ⟨X,2,none⟩ (.int .i64 K2)).setCell ⟨X,3,none⟩ (.int .i64 K3)).setCell ⟨X,4,none⟩ (.int .i64 K4));rw[<-am];have D:G=w5.setCells X 1 [.int .i64 K1,.int .i64 K2,.int .i64 K3,.int .i64 K4]:=am;have ah:=hH<|show G.heap[X]? = some (B8 x.i.gen K1 K2 K3 K4 (.slice x.rp x.rn x.rc) (.slice x.ep x.en x.ec) x.i.next) by
   rw[am];have h4:=ij (ij (ij (ij l 1 (.int .i64 K1)) 2 (.int .i64 K2)) 3 (.int .i64 K3)) 4 (.int .i64 K4);simpa using h4
  have Q:Hid (G.1[B]?=some (gj vi vo vs dn cl c)):=by show _=_;rw[D];exact (dq _ _ _ qo).trans aG
  have ai:=hH<|show G.heap[w.heap.size]? = some fJ by rw[D];exact (dq _ _ _ (by omega)).trans aH
  have U:=hH<|show Bw w G by rw[D];exact da (by omega) _ _ _ aF.out
  have aj:=hH<|show Good (λb=>b < X) G x by rw[D];exact iO (S:=λb=>b<X) (by show ¬ X<X;omega) _ _ _ aI.out
  have aK:=hH<|show cD (λb=>b < w.heap.size) G vi L by rw[D];exact df (by show ¬ X<w.1.size;omega) _ _ _ aJ
  have bv:=(qL ah);have bw:=(qL Q);have bx:=(qL ai);clear am D l aG aH aF aI aJ bc k1 k2 k3 k4 kf
  by_cases hg0:ge=0
  ·subst hg0;obtain⟨e1,e2,e3,e4⟩:=au.out rfl;subst e1 e2 e3;have e5:=e4.symm;subst e5;have g:=af.out;have n:=ag.out;rw[MC rfl]at g n;have HR:=hH g;have HT:=hH n;clear af ag au g n;have HC:Hid (∀ V,Bw G V->Calls Tryz.prog 162 #[.slice x.rp x.rn x.rc,.int .i64 c.pl] V λe w'=>∃ p m q ce,e=.returned (.tuple #[.slice p m q,.int .i64 ce])/\At ER (λb=>X<b) w' (.slice p m q) (Bs.Bl.o5 x.i.runs c.pl)/\Bw V w'):=λV h=>by
    have hg:=sg (aj.up h);refine (Bs.I4 (.slice x.rp x.rn x.rc) x.i.runs c.pl V hg.1 hg.2).mono ?_;rintro e w' ⟨r,h1,h2,h3⟩;have ha:=Hh h2;obtain⟨ao,bz,hr,-,-⟩:=ha.open;subst hr;have hs:=h.size;exact⟨_,_,_,_,h1,ha.imp (λb hb _=>by show X<b;omega),h3⟩
   have P:Hid (∀ V:World,Bw G V->V.cell? ⟨X,5,none⟩=some (.slice x.rp x.rn x.rc)/\V.cell? ⟨B,12,none⟩=some (.int .i64 c.pl)):=λV h=>by
    obtain⟨-,-,-,-,-,-,-,-,-,-,-,-,aA,-,-⟩:=gh Q;have k5:=cJ ah 5;simp at k5;exact⟨cC k5 h,cC aA h⟩
   go_wp2_with fail;refine NX qk ?_;change wpAny _ _ _ _ _ _ _ (World.drew _);refine qV (i:=0) rfl ?_
   try simp only[qS]
   refine qV (i:=2) rfl ?_
   try simp only[qS]
   refine qV (i:=3) rfl ?_
   try simp only[qS]
   refine qV (i:=4) rfl ?_
   try simp only[qS]
   refine qV (i:=5) rfl ?_
   try simp only[qS]
   have HS:=P.out _ (cX (MJ _ _));refine Fst.iu (late:=λk=>[7,8,9,10,11,12].contains k) (S:=λV:World=>V.cell? ⟨X,5,none⟩=some (.slice x.rp x.rn x.rc)/\V.cell? ⟨B,12,none⟩=some (.int .i64 c.pl)) _ _ _ _ ?_;refine Fst.tk (ls:=[7,8,9,10,11,12]) (i:=1) (v:=?v22) rfl (Or.inl ⟨by rfl,?h22⟩) HS ?r22
   case h22=>(rintro V ⟨s5,al⟩;go_simp;try with_reducible rfl)
   try simp only[qS]
   refine Fst.tk (ls:=[7,8,9,10,11,12]) (i:=6) (v:=?v23) rfl (Or.inl ⟨by rfl,?h23⟩) HS ?r23
   case h23=>(rintro V ⟨s5,al⟩;go_simp;try with_reducible rfl)
   try simp only[qS]
   refine Fst.rest qk ?_;refine Nc (rs:=[7]) qk qs ?_;refine M7 rfl (λK C=>?_) M9
   go_simp
   refine (HC _ (cX (MJ _ _))).mono ?_;rintro e w7 ⟨p,m,q,ce,rfl,aV,a⟩;have f:=dH a;have E:=qJ U f;have F:=qK f Q;have o:=qK f ai;have ak:=qK f ah;have av:=hH<|aj.out.up f;have aL:=hH<|aK.out.up f;have aM:=hH aV;have k5:=cJ ak 5;have kf:=dw ak;simp at k5;clear a f aV HC P HS U Q ai ah aj aK
   (try go_wp2_with fail)
   first | (refine C _ _ ?_;clear C K) | skip
   try simp only[qS]
   refine qV (i:=8) rfl ?_
   try simp only[qS]
   refine qV (i:=9) rfl ?_
   try simp only[qS]
   refine qV (i:=10) rfl ?_
   try simp only[qS]
   refine qV (i:=11) rfl ?_
   try simp only[qS]
   refine Nc (rs:=[12]) qk qs ?_;refine M7 rfl (λK C=>?_) M9
   go_simp
   (try go_wp2_with fail)
   first | (refine C _ _ ?_;clear C K) | skip
   try simp only[qS]
   refine N1 qk ?_ _;obtain⟨H,t⟩:=qF (w7.setCell ⟨X,5,none⟩ (.slice p m q));rw[<-t];obtain⟨y,hy⟩:∃ y:Rw,y=⟨Nf.C4 x.i c dn,p,m,q,x.ep,x.en,x.ec⟩:=⟨_,rfl⟩;have bd:=hH<|show y.i = Nf.C4 x.i c dn by rw[hy]
   have s:=hH<|show H.heap[X]? = some (B8 x.i.gen x.i.kind x.i.cH c.pl dn (.slice p m q) (.slice x.ep x.en x.ec) x.i.next) by
    rw[t];have h4:=ij ak 5 (.slice p m q);simpa using h4
   have bf:=hH<|show H.heap[B]? = some (gj vi vo vs dn cl c) by rw[t];exact (MM _ _ _ _ (show B≠X by omega)).trans F
   have aN:Hid (H.1[w.1.size]?=some fJ):=by show _=_;rw[t];exact (MM _ _ _ _ (show w.1.size≠X by omega)).trans o
   have bg:=hH<|show Bw w H by rw[t];exact MP E (by show w.1.size<=X;omega) _
   have bh:=hH<|show cD (λb=>b < w.heap.size) H vi L by rw[t];exact df (A:=X) (by show ¬ X<w.1.size;omega) [.slice p m q] 5 _ aL
   have bi:=hH<|show Good (λb=>b≠X) H y by
    rw[hy,t];have aO:=IL x.i.runs c.pl;exact⟨(aM.imp (λb hb _=>by show b≠X;omega)).setCell (λh=>h rfl) _,(av.out.2.1.imp (λb hb _=>by show b≠X;omega)).setCell (λh=>h rfl) _,aO.1,aO.2,av.out.2.2.2.2⟩
   have bj:=hH<|show VI y = .agg #[.int .i64 x.i.gen,.int .i64 x.i.kind,.int .i64 x.i.cH,.int .i64 c.pl,.int .i64 dn,.slice p m q,.slice x.ep x.en x.ec,.int .i64 x.i.next] by rw[hy];rfl
   have bk:=(qL aN);have k0:=cJ s 0;have k1:=cJ s 1;have k2:=cJ s 2;have k3:=cJ s 3;have k4:=cJ s 4;have bl:=cJ s 5;have k6:=cJ s 6;have k7:=cJ s 7;simp at k0 k1 k2 k3 k4 bl k6 k7;clear t hy k5 kf E F o ak av aL aM;go_wp2_with fail;rw[<-bj.out];refine (zR vi vo vs dn cl c L B y H bf bh bi).mono ?_;rintro e w9 ⟨u,rfl,aW,an,aB⟩;rw[bd.out]at an |-;have g:=HR.out;rw[HT.out]at an;have aP:=hH<|(aB.block _ bk qt).trans aN;obtain⟨g0,g1,g2,g3,g4,g5,g6,g7,g8,g9⟩:=ev aP;have gg:=dw aP;have bm:=hH aW;have bn:=hH an;have bo:=hH<|cQ (cP bg _) aB;have aQ:=hH g;obtain⟨pe,aX⟩:=qE (dM (pl L) c.no c.gen (Nf.C4 x.i c dn));rw[aX]at aQ |-;clear aW an aB g aX;have bp:(Nf.C4 x.i c dn).kind=x.i.kind:=rfl;have bq:(Nf.C4 x.i c dn).cH=x.i.cH:=rfl;have br:(Nf.C4 x.i c dn).size=c.pl:=rfl;have bs:(Nf.C4 x.i c dn).cF=dn:=rfl;rw[bp,bq,br,bs];go_wp2
   refine MK (v:=R) ?_ rfl ⟨u,rfl,?_,?_,?_⟩
   ·rw[cN rfl,<-aQ.out]
    go_simp
   ·repeat (with_reducible refine (MM _ _ _ _ (show B≠w.1.size from J)).trans ?_)
    exact bm
   ·rcases bn with ⟨h1,h2⟩ | ⟨L',h1,h2⟩
    ·exact .inl ⟨h1,h2⟩
    ·refine .inr ⟨L',?_,h2⟩;refine cD.imp ?_ (S:=λb=>H.1.size+1<=b) (λb hb _=>by omega);exact df (A:=w.1.size) (S:=λb=>H.1.size+1<=b) (by show ¬ H.1.size+1<=w.1.size;omega) (cV pe 0 0 x.i.kind x.i.cH c.pl dn) 0 _ h1
   ·repeat (with_reducible refine eN ?_ (.inl (MI w.1.size)) _)
    exact bo
  ·have hz:(ge != 0)=true:=by simpa using hg0
   have g:=af.out;have n:=ag.out;rw[ME hg0]at g n;have aw:=hH g;have ax:=hH n;clear g n af ag au hg0 aj;go_wp2_with fail;refine (eV ge _).mono ?_;rintro e w7 ⟨rfl,a⟩;have E:=qJ U a;have o:=qK a ai;have F:=qK a Q;obtain⟨g0,g1,g2,g3,g4,g5,g6,g7,g8,g9⟩:=ev o;have gg:=dw o;clear a;go_wp2
   refine MK (v:=R) ?_ rfl ⟨vi,rfl,?_,.inl ⟨rfl,ax.symm⟩,?_⟩
   ·rw[cN rfl,<-aw.out]
    go_simp
   ·repeat (with_reducible refine (MM _ _ _ _ (show B≠w.1.size from J)).trans ?_)
    exact F
   ·repeat (with_reducible refine eN ?_ (.inl (MI w.1.size)) _)
    exact cP E _
 ·have hz:(fe != 0)=true:=by simpa using h0
  have g:=ab.out;have n:=ac.out;rw[ME h0]at g n;have aw:=hH g;have ax:=hH n;clear g n ab ac ar h0 HG HF;go_wp2_with fail;rw[<-hY];clear hY;refine (eV fe _).mono ?_;rintro e w7 ⟨rfl,a⟩;have E:=qJ N a;have o:=qK a HZ;have F:=qK a O;obtain⟨g0,g1,g2,g3,g4,g5,g6,g7,g8,g9⟩:=ev o;have gg:=dw o;clear a;go_wp2
  refine MK (v:=R) ?_ rfl ⟨vi,rfl,?_,.inl ⟨rfl,ax.symm⟩,?_⟩
  ·rw[cN rfl,<-aw.out]
   go_simp
  ·repeat (with_reducible refine (MM _ _ _ _ (show B≠w.1.size from J)).trans ?_)
   exact F
  ·repeat (with_reducible refine eN ?_ (.inl (MI w.1.size)) _)
   exact cP E _
end Go.Proofs.YtiifhfmekbhlnaaGreat
namespace Go.Proofs.YtiifhfmekbhlnaaGreat.Bs
open RowKit Go.Shelf
attribute [local go_sem] O4
def Bl.jV (l:List Bl.R) (at_:Int) (d:ByteArray):Int :=
 if Bl.right (-1) l then if at_<0 then 1 else if 1048576-(d.size:Int)<at_ then 408 else 0 else 80
def Bl.rU (l:List Bl.R) (at_:Int) (d:ByteArray):List Bl.R:=if Bl.jV l at_ d=0 then Bl.write l at_ d else []
theorem GK (v:Value)(l:List Bl.R)(at_:Int)(d:ByteArray)(w:World)(hv:cT w.1.size w v l)(eE:dQ l)(hr:Bl.right (-1) l)(h0:0<=at_)(h1:at_+(d.size:Int)<=1048576) :
  Calls Tryz.prog 159 #[v,.int .i64 at_,.string d] w λe w'=>∃ r,e=.returned (.tuple #[r,.int .i64 0])/\w'.ownsRow w.1.size 114 2 r (Bl.write l at_ d).length (cellsOf (Bl.write l at_ d))/\Below w.1.size w w':=by
 have HE:=hH<|show Bl.err l=0 by unfold Bl.err;rw[MC hr]
 have HV:Hid (cT w.1.size w v l):=hv;obtain⟨ao,an,rfl,hm,_⟩:=hv.open;clear hv;have aH:¬ at_<0:=by omega
 have aI:¬ 1048576-(d.size:Int)<at_:=by omega
 refine (N8 (n:=3)).1 ?_;refine callsIn_of_wp_marks Tryz.func159 rfl trivial ?_ rfl;simp only[Tryz.ntmps159,List.size_toArray,List.length_cons,List.length_nil,Nat.reduceAdd,Nat.reduceSub,Array.replicate_succ,Array.replicate_zero,List.push_toArray,List.append_toArray,List.nil_append,List.cons_append];refine wpIn_wide.2 ?_;go_wp2_with fail;refine (du _ l _ HV.out eE).mono ?_;rintro e w1 ⟨rfl,au⟩;rw[HE.out];go_wp2_with fail;refine (eJ _ _ _ _ ⟨_,_,_,rfl⟩).mono ?_;rintro e w2 ⟨rfl,rfl⟩;go_wp2;have hO:w.1.size<=w1.1.size:=au.size;have aJ:l.length<=1048577:=by
  have h:(l.length:Int)<=1048576 - -1:=Bl.ks hr (by decide);omega
 obtain⟨i,I⟩:=qE w.1.size;obtain⟨O,av⟩:=qE w1.1.size;obtain⟨g,ai⟩:=qE (Value.slice ao l.length an);have b3:=jM (w1.alloc (.cells #[.slice none 0 0] 84)) g 0 at_;rw[NV]at b3;have bO:=(((Boxed.new w1 84 (.slice none 0 0)).alloc (.cells #[g] 84)).alloc (.cells #[.int .i64 0] 3)).alloc (.cells #[.int .i64 at_] 3);have af:Below w.1.size w ((((w1.alloc (.cells #[.slice none 0 0] 84)).alloc (.cells #[g] 84)).alloc (.cells #[.int .i64 0] 3)).alloc (.cells #[.int .i64 at_] 3)) :=
  (((au.alloc hO _).alloc (by simp;omega) _).alloc (by simp;omega) _).alloc (by simp;omega) _
 have aq:((((w1.alloc (.cells #[.slice none 0 0] 84)).alloc (.cells #[g] 84)).alloc (.cells #[.int .i64 0] 3)).alloc (.cells #[.int .i64 at_] 3)).1.size=w1.1.size+4:=by simp
 rw[ai,I]at HV;rw[ai];obtain⟨W0,aE⟩:=qE ((((w1.alloc (.cells #[.slice none 0 0] 84)).alloc (.cells #[g] 84)).alloc (.cells #[.int .i64 0] 3)).alloc (.cells #[.int .i64 at_] 3));rw[aE]at b3 bO af aq |-;rw[av]at b3 bO aq hO;rw[I]at af hO;have az:cT i W0 g l:=HV.out.below af (MI _);rw[av];refine (wpIn_wide (n:=3)).1 ?_;refine wpIn_rangeFunc_ownH rfl (by omega) (gf:=202) (lb:=#[.pointer (some ⟨O+1,0,none⟩),.pointer (some ⟨O+1+1,0,none⟩),.pointer (some ⟨O+1+1+1,0,none⟩)]) rfl trivial (enters_of Tryz.func202 (by kernel_rfl) rfl)
  (kQ (3-1) (by omega) (O+1) i g l 0 at_ hr W0 (by omega) (by omega) az b3) (λh k=>pL h k) (qv (by omega) (by omega)) (MJ _ _) (λ_=>rfl)
  (λa W=>((∃ v,Boxed W O 84 v/\W.ownsRow i 114 2 v (Bl.eC [] (a.map (·.1))).length (cellsOf (Bl.eC [] (a.map (·.1))))/\True)/\jn W (O+1) g 0 at_)/\Below i w W)
  (λ_ _ _=>False)
  (OwnFrom.and (OwnFrom.and (Own.from (holdsRow_own i O 84 114 2 (λa:List (In 0 at_)=>(Bl.eC [] (a.map (·.1))).length) (λa=>cellsOf (Bl.eC [] (a.map (·.1)))) (λ_ _=>True)) _) (Own.from (l6 _ _ _ _) _)) (ownFrom_below (by omega) (by omega)))
  (λ_ _ _ _ _ hs _ _=>hs)
  ⟨⟨⟨_,bO,NH _ _ _ _,trivial⟩,b3⟩,af⟩
  (λx a' W=>∃ t,W.1[t]?=some (.cells #[.int .i64 x.1.1,.string x.1.2] 114 (0,0))/\a' = { tmps:=#[g,.int .i64 at_,.string d,undef,undef,undef,.slice none 0 0,.int .i64 0,.pointer (some ⟨O,0,none⟩),.pointer (some ⟨t,0,none⟩),undef,.bool false,g,.int .i64 0,.bool false,.bool (decide (at_<0)),.int .i64 at_,.bool (decide (at_<0)),.bool (decide (1048576-(d.size:Int)<at_)),.int .i64 at_,.string d,.int .i64 d.size,.int .i64 (1048576-(d.size:Int)),.bool (decide (1048576-(d.size:Int)<at_)),g,.int .i64 at_,.func (.func 202) #[] #[.pointer (some ⟨O+1,0,none⟩),.pointer (some ⟨O+1+1,0,none⟩),.pointer (some ⟨O+1+1+1,0,none⟩)],.agg #[.int .i64 x.1.1,.string x.1.2],undef,undef,undef,undef,undef,undef,undef,undef,undef,undef,undef,undef,undef,undef,undef,undef,undef,undef,undef,undef,undef],defers:=[] })
  (λx a' _ X Y ad hs hg hr=>by obtain⟨t,h1,h2⟩:=hs;exact⟨t,mm (β:=Unit) t _ _ () X Y ad h1 hg (λr e=>(hr r e).2),h2⟩)
  ?assign ?body ?done ?stop
 case assign =>
  rintro lp a x W K ⟨⟨⟨v,p,hv,_⟩,o⟩,j⟩ Z;simp only[encs]
  gi_wp2
  refine Z _ _ ((KeepsOthers.alloc _ _).from _) (Kept.still (MU _ _ _)) ⟨⟨⟨v,p.alloc _,hv.alloc _,trivial⟩,o.alloc _⟩,j.alloc (by have:=j.size;omega) _⟩ ⟨W.1.size,MD _ _,rfl⟩
 case body =>
  rintro lp a x a' W _ _ ⟨⟨⟨v,p,hv,_⟩,o⟩,j⟩ ⟨t,aa,rfl⟩ aw;have q:i<=W.1.size:=by have:=j.size;omega
  have cO:=p.cell;obtain⟨x0,x1⟩:=cU aa;have P:Hid (Fit (Bl.eC [] (a.map (·.1)))/\x.1.2.size<=1048576):=⟨Bl.fit (λr hr=>by cases hr) (by simp) (yH (Ng _) (by omega) a) (by simp;omega),xQ (Ng _) (by omega) x⟩
  gi_wp2_with (refine⟨trivial,?_⟩;gi_at_call 181;refine (CallsIn.inRound lp (N8.2 (pR i v (Bl.eC [] (a.map (·.1))) x.1 W hv q P.out.1 P.out.2))).mono ?_;rintro e w' ⟨v',rfl,b,f⟩;obtain⟨g',G,rfl⟩:=tD b (Bl.pJ _ _);obtain⟨N,k2,k3,k4,k5,J⟩:=yI p hv q hO b f;have ag:=N.cell;have ah:=N.frozen)
  have y:=(show jn _ (O+1) g 0 at_ from⟨J _ _ _ (by decide) (by omega) o.1,J _ _ _ (by decide) (by omega) o.2.1,J _ _ _ (by decide) (by omega) o.2.2⟩);exact⟨k4.from _,o.kept y k5,⟨⟨_,k2,by rw[NO,Nx,N3,Bl.mX];exact k3,trivial⟩,y⟩,j.trans k5⟩
 case done =>
  rintro D ys W hD ax ⟨⟨⟨v,p,hv,_⟩,o⟩,j⟩ Z;rw[ax]at hv;have q:i<=W.1.size:=by have:=j.size;omega
  have cO:=p.cell;have aG:D<W.1.size:=(qL Z);have H:Hid (Bl.low (Bl.within 0 at_ l)/\(Bl.within 0 at_ l).length<=1048577):=by
   refine⟨?_,?_⟩
   ·rw[<-ax];exact yH (Ng _) (by omega) ys
   ·have:(Bl.within 0 at_ l).length<=l.length:=List.length_filterMap_le _ _;omega
  by_cases hd0:d.size=0
  ·have aA:d.toList.isEmpty=true:=by
    rw[ND,Oi];exact MX (by simpa using hd0)
   have aB:Hid _:=hd0;clear hd0;go_wp2_with fail;refine (eJ _ _ _ _ ⟨ao,l.length,an,ai.symm⟩).mono ?_;rintro e w4 ⟨rfl,rfl⟩;go_wp2;have Q:=hH<|show Bl.write l at_ d=Bl.eC (Bl.eC [] (Bl.within 0 at_ l)) (Bl.within (at_+d.size) 1048576 l) by
    unfold Bl.write Bl.parts;rw[MC aB.out,OD,Bl.p8]
   have S:Hid (Bl.low (Bl.eC [] (Bl.within 0 at_ l))/\(Bl.eC [] (Bl.within 0 at_ l)).length<=1048578):=⟨Bl.rW (λr hr=>by cases hr) H.out.1,by have h1:=Bl.mA (Bl.within 0 at_ l) [];have h2:=H.out.2;simp only[List.length_nil]at h1;omega⟩;have bX:=p;have rX:=hv;have s:=j;have L:=Z;obtain⟨u,aj⟩:=qE W;rw[aj]at bX rX s L |-;obtain⟨m,ab⟩:=qE (Bl.eC [] (Bl.within 0 at_ l));rw[ab]at Q S rX;clear p hv j o Z cO;have b4:=jM u g (at_+(d.size:Int)) 1048576;have T:=((bX.alloc (.cells #[g] 84)).alloc (.cells #[.int .i64 (at_+(d.size:Int))] 3)).alloc (.cells #[.int .i64 1048576] 3);have U:=((rX.alloc (.cells #[g] 84)).alloc (.cells #[.int .i64 (at_+(d.size:Int))] 3)).alloc (.cells #[.int .i64 1048576] 3);have z:i<=u.1.size:=by have:=s.size;omega
   have B:Below i w (((u.alloc (.cells #[g] 84)).alloc (.cells #[.int .i64 (at_+(d.size:Int))] 3)).alloc (.cells #[.int .i64 1048576] 3)) :=
    ((s.alloc z _).alloc (by simp;omega) _).alloc (by simp;omega) _
   have m4:(((u.alloc (.cells #[g] 84)).alloc (.cells #[.int .i64 (at_+(d.size:Int))] 3)).alloc (.cells #[.int .i64 1048576] 3)).1[D]?=some (.deferred (some [])):=by
    have ak:D<u.1.size:=(qL L);exact (ML _ _ _ (by simp;omega)).trans ((ML _ _ _ (by simp;omega)).trans ((ML _ _ _ ak).trans L))
   have A:(((u.alloc (.cells #[g] 84)).alloc (.cells #[.int .i64 (at_+(d.size:Int))] 3)).alloc (.cells #[.int .i64 1048576] 3)).1.size=u.1.size+3:=by simp
   obtain⟨W4,ac⟩:=qE (((u.alloc (.cells #[g] 84)).alloc (.cells #[.int .i64 (at_+(d.size:Int))] 3)).alloc (.cells #[.int .i64 1048576] 3));rw[ac]at b4 T U B m4 A |-;clear ac;obtain⟨M,hM⟩:=qE u.1.size;have aC:O<M:=by have:=bX.lt;omega
   have aD:D<M:=by have:=(qL L);omega
   rw[hM]at b4 A z;rw[hM];have al:cT i W4 g l:=HV.out.below B (MI _);have V:Hid _:=S.out;clear bX rX s L hM;refine (wpIn_wide (n:=3)).1 ?_;refine wpIn_rangeFunc_ownH rfl (by omega) (gf:=202) (lb:=#[.pointer (some ⟨M,0,none⟩),.pointer (some ⟨M+1,0,none⟩),.pointer (some ⟨M+1+1,0,none⟩)]) rfl trivial (enters_of Tryz.func202 (by kernel_rfl) rfl)
    (kQ (3-1) (by omega) M i g l (at_+(d.size:Int)) 1048576 hr W4 (by omega) (by omega) al b4) (λh k=>pL h k) (qv (by omega) (by omega)) (MJ _ _) (λ_=>rfl)
    (λa W=>(((∃ v,Boxed W O 84 v/\W.ownsRow i 114 2 v (Bl.eC m (a.map (·.1))).length (cellsOf (Bl.eC m (a.map (·.1))))/\True)/\jn W M g (at_+(d.size:Int)) 1048576)/\W.1[D]?=some (.deferred (some [])))/\Below i w W)
    (λ_ _ _=>False)
    (OwnFrom.and (OwnFrom.and (OwnFrom.and (Own.from (holdsRow_own i O 84 114 2 (λa:List (In (at_+(d.size:Int)) 1048576)=>(Bl.eC m (a.map (·.1))).length) (λa=>cellsOf (Bl.eC m (a.map (·.1)))) (λ_ _=>True)) _) (Own.from (l6 _ _ _ _) _)) (AD _ (by omega))) (ownFrom_below (by omega) (by omega)))
    (λ_ _ _ _ _ hs _ _=>hs)
    ⟨⟨⟨⟨_,T,U,trivial⟩,b4⟩,m4⟩,B⟩
    (λx a' W=>∃ t,W.1[t]?=some (.cells #[.int .i64 x.1.1,.string x.1.2] 114 (0,0))/\a' = { tmps:=#[g,.int .i64 at_,.string d,undef,undef,undef,.slice none 0 0,.int .i64 0,.pointer (some ⟨O,0,none⟩),undef,.pointer (some ⟨t,0,none⟩),.bool false,g,.int .i64 0,.bool false,.bool (decide (at_<0)),.int .i64 at_,.bool (decide (at_<0)),.bool (decide (1048576-(d.size:Int)<at_)),.int .i64 at_,.string d,.int .i64 d.size,.int .i64 (1048576-(d.size:Int)),.bool (decide (1048576-(d.size:Int)<at_)),g,.int .i64 at_,.func (.func 202) #[] #[.pointer (some ⟨O+1,0,none⟩),.pointer (some ⟨O+1+1,0,none⟩),.pointer (some ⟨O+1+1+1,0,none⟩)],undef,undef,undef,undef,.string d,.bool false,undef,undef,undef,undef,undef,g,.int .i64 at_,.string d,.int .i64 d.size,.int .i64 (at_+(d.size:Int)),.func (.func 202) #[] #[.pointer (some ⟨M,0,none⟩),.pointer (some ⟨M+1,0,none⟩),.pointer (some ⟨M+1+1,0,none⟩)],.agg #[.int .i64 x.1.1,.string x.1.2],undef,undef,undef,undef],defers:=[] })
    (λx a' _ X Y ad hs hg hr=>by obtain⟨t,h1,h2⟩:=hs;exact⟨t,mm (β:=Unit) t _ _ () X Y ad h1 hg (λr e=>(hr r e).2),h2⟩)
    ?assign2 ?body2 ?done2 ?stop2
   case assign2 =>
    rintro lp a x W K ⟨⟨⟨⟨v,p,hv,_⟩,o⟩,mk⟩,j⟩ Z;simp only[encs]
    gi_wp2
    refine Z _ _ ((KeepsOthers.alloc _ _).from _) (Kept.still (MU _ _ _)) ⟨⟨⟨⟨v,p.alloc _,hv.alloc _,trivial⟩,o.alloc _⟩,(ML _ _ _ (qL mk)).trans mk⟩,j.alloc (by have:=j.size;omega) _⟩ ⟨W.1.size,MD _ _,rfl⟩
   case body2 =>
    rintro lp a x a' W _ _ ⟨⟨⟨⟨v,p,hv,_⟩,o⟩,mk⟩,j⟩ ⟨t,aa,rfl⟩ aw;have q:i<=W.1.size:=by have:=j.size;omega
    have cO:=p.cell;obtain⟨x0,x1⟩:=cU aa;have P:Hid (Fit (Bl.eC m (a.map (·.1)))/\x.1.2.size<=1048576):=⟨Bl.fit V.out.1 (by have:=V.out.2;omega) (yH (by omega) (Ng _) a) (by simp;omega),xQ (by omega) (Ng _) x⟩
    gi_wp2_with (refine⟨trivial,?_⟩;gi_at_call 181;refine (CallsIn.inRound lp (N8.2 (pR i v (Bl.eC m (a.map (·.1))) x.1 W hv q P.out.1 P.out.2))).mono ?_;rintro e w' ⟨v',rfl,b,f⟩;obtain⟨g',G,rfl⟩:=tD b (Bl.pJ _ _);obtain⟨N,k2,k3,k4,k5,J⟩:=yI p hv q hO b f;have ag:=N.cell;have ah:=N.frozen)
    have y:=(show jn _ M g (at_+(d.size:Int)) 1048576 from⟨J _ _ _ (by decide) (by omega) o.1,J _ _ _ (by decide) (by omega) o.2.1,J _ _ _ (by decide) (by omega) o.2.2⟩);exact⟨k4.from _,o.kept y k5,⟨⟨⟨_,k2,by rw[NO,Nx,N3,Bl.mX];exact k3,trivial⟩,y⟩,k4.same D _ mk rfl⟩,j.trans k5⟩
   case done2 =>
    rintro D2 zs W aF ap ⟨⟨⟨⟨v,p,hv,_⟩,o⟩,mk⟩,j⟩ F;rw[ap]at hv;have cO:=p.cell;go_wp2;have C:(W.putObj D2 (.deferred none)).1[D]?=some (.deferred (some [])):=(World.putObj_heap_other (by omega)).trans mk;refine⟨by simp,.inl ⟨_,_,rfl,run_takeDeferred F,by simp,.inl ⟨_,_,rfl,run_takeDeferred C,?_⟩⟩⟩;have E:=ownsRow_putObj (ownsRow_putObj hv (.deferred none) F rfl) (.deferred none) C rfl;have am:Below i w ((W.putObj D2 (.deferred none)).putObj D (.deferred none)):=(j.trans (belowK_b (w:=W4) (by omega) W D2 _ _ (by omega) F rfl rfl)).trans (belowK_b (w:=W0) (by omega) _ D _ _ (by omega) C rfl rfl);refine⟨.tuple #[v,.int .i64 0],by simp[results,Tryz.results159,go_sem],⟨v,rfl,?_,?_⟩⟩
    ·rw[I,Q.out];exact E
    ·rw[I];exact am
   case stop2 =>
    rintro D c a W _ _ h _;exact h.elim
  ·have aA:d.toList.isEmpty=false:=by
    rw[ND,List.isEmpty_eq_false_iff];intro h;have:d.data.toList.length=0:=by rw[h];rfl
    exact hd0 (by simpa using this)
   have P:Hid (Fit (Bl.eC [] (Bl.within 0 at_ l))/\d.size<=1048576):=⟨Bl.fit (λr hr=>by cases hr) (by simp) H.out.1 (by have:=H.out.2;omega),by omega⟩;go_wp2_with fail;refine (pR i v (Bl.eC [] (Bl.within 0 at_ l)) (at_,d) W hv q P.out.1 P.out.2).mono ?_;rintro e w3 ⟨v',rfl,b,f⟩;obtain⟨g',G,rfl⟩:=tD b (Bl.pJ _ _);obtain⟨N,k2,k3,k4,k5,J⟩:=yI p hv q hO b f;have ag:=N.cell;have ah:=N.frozen;go_wp2_with fail;refine (eJ _ _ _ _ ⟨ao,l.length,an,ai.symm⟩).mono ?_;rintro e w4 ⟨rfl,rfl⟩;go_wp2;have Q:=hH<|show Bl.write l at_ d=Bl.eC (Bl.join (Bl.eC [] (Bl.within 0 at_ l)) (at_,d)) (Bl.within (at_+d.size) 1048576 l) by
    unfold Bl.write Bl.parts;rw[ME hd0,Bl.p8,Bl.mX]
   have S:Hid (Bl.low (Bl.join (Bl.eC [] (Bl.within 0 at_ l)) (at_,d))/\(Bl.join (Bl.eC [] (Bl.within 0 at_ l)) (at_,d)).length<=1048578):=by
    refine⟨Bl.Af (Bl.rW (λr hr=>by cases hr) H.out.1) ⟨h0,?_⟩,?_⟩
    ·unfold Bl.ee;simp only;omega
    ·have h1:=Bl.mA (Bl.within 0 at_ l) [];have h2:=H.out.2;have h3:=Bl.length_join (Bl.eC [] (Bl.within 0 at_ l)) (at_,d);simp only[List.length_nil]at h1;omega
   have bX:=k2;have rX:=k3;have s:=j.trans k5;have L:=k4.same D _ Z rfl;obtain⟨m,ab⟩:=qE (Bl.join (Bl.eC [] (Bl.within 0 at_ l)) (at_,d));obtain⟨v5,ay⟩:=qE (Value.slice (some ⟨g',0,none⟩) (Bl.join (Bl.eC [] (Bl.within 0 at_ l)) (at_,d)).length G);rw[ay]at bX rX s L |-;rw[ab]at Q S rX;obtain⟨u,aj⟩:=qE (w3.setCell ⟨O,0,none⟩ v5);have ar:w3.1.size=u.1.size:=by rw[<-aj];simp[World.setCell]
   rw[ar];rw[aj]at bX rX s L |-;clear N k2 k3 k4 k5 J ag ah b f p hv j o Z cO ay;have b4:=jM u g (at_+(d.size:Int)) 1048576;have T:=((bX.alloc (.cells #[g] 84)).alloc (.cells #[.int .i64 (at_+(d.size:Int))] 3)).alloc (.cells #[.int .i64 1048576] 3);have U:=((rX.alloc (.cells #[g] 84)).alloc (.cells #[.int .i64 (at_+(d.size:Int))] 3)).alloc (.cells #[.int .i64 1048576] 3);have z:i<=u.1.size:=by have:=s.size;omega
   have B:Below i w (((u.alloc (.cells #[g] 84)).alloc (.cells #[.int .i64 (at_+(d.size:Int))] 3)).alloc (.cells #[.int .i64 1048576] 3)) :=
    ((s.alloc z _).alloc (by simp;omega) _).alloc (by simp;omega) _
   have m4:(((u.alloc (.cells #[g] 84)).alloc (.cells #[.int .i64 (at_+(d.size:Int))] 3)).alloc (.cells #[.int .i64 1048576] 3)).1[D]?=some (.deferred (some [])):=by
    have ak:D<u.1.size:=(qL L);exact (ML _ _ _ (by simp;omega)).trans ((ML _ _ _ (by simp;omega)).trans ((ML _ _ _ ak).trans L))
   have A:(((u.alloc (.cells #[g] 84)).alloc (.cells #[.int .i64 (at_+(d.size:Int))] 3)).alloc (.cells #[.int .i64 1048576] 3)).1.size=u.1.size+3:=by simp
   obtain⟨W4,ac⟩:=qE (((u.alloc (.cells #[g] 84)).alloc (.cells #[.int .i64 (at_+(d.size:Int))] 3)).alloc (.cells #[.int .i64 1048576] 3));rw[ac]at b4 T U B m4 A |-;clear ac;obtain⟨M,hM⟩:=qE u.1.size;have aC:O<M:=by have:=bX.lt;omega
   have aD:D<M:=by have:=(qL L);omega
   rw[hM]at b4 A z;rw[hM];have al:cT i W4 g l:=HV.out.below B (MI _);have V:Hid _:=S.out;clear bX rX s L hM;refine (wpIn_wide (n:=3)).1 ?_;refine wpIn_rangeFunc_ownH rfl (by omega) (gf:=202) (lb:=#[.pointer (some ⟨M,0,none⟩),.pointer (some ⟨M+1,0,none⟩),.pointer (some ⟨M+1+1,0,none⟩)]) rfl trivial (enters_of Tryz.func202 (by kernel_rfl) rfl)
    (kQ (3-1) (by omega) M i g l (at_+(d.size:Int)) 1048576 hr W4 (by omega) (by omega) al b4) (λh k=>pL h k) (qv (by omega) (by omega)) (MJ _ _) (λ_=>rfl)
    (λa W=>(((∃ v,Boxed W O 84 v/\W.ownsRow i 114 2 v (Bl.eC m (a.map (·.1))).length (cellsOf (Bl.eC m (a.map (·.1))))/\True)/\jn W M g (at_+(d.size:Int)) 1048576)/\W.1[D]?=some (.deferred (some [])))/\Below i w W)
    (λ_ _ _=>False)
    (OwnFrom.and (OwnFrom.and (OwnFrom.and (Own.from (holdsRow_own i O 84 114 2 (λa:List (In (at_+(d.size:Int)) 1048576)=>(Bl.eC m (a.map (·.1))).length) (λa=>cellsOf (Bl.eC m (a.map (·.1)))) (λ_ _=>True)) _) (Own.from (l6 _ _ _ _) _)) (AD _ (by omega))) (ownFrom_below (by omega) (by omega)))
    (λ_ _ _ _ _ hs _ _=>hs)
    ⟨⟨⟨⟨_,T,U,trivial⟩,b4⟩,m4⟩,B⟩
    (λx a' W=>∃ t,W.1[t]?=some (.cells #[.int .i64 x.1.1,.string x.1.2] 114 (0,0))/\a' = { tmps:=#[g,.int .i64 at_,.string d,undef,undef,undef,.slice none 0 0,.int .i64 0,.pointer (some ⟨O,0,none⟩),undef,.pointer (some ⟨t,0,none⟩),.bool false,g,.int .i64 0,.bool false,.bool (decide (at_<0)),.int .i64 at_,.bool (decide (at_<0)),.bool (decide (1048576-(d.size:Int)<at_)),.int .i64 at_,.string d,.int .i64 d.size,.int .i64 (1048576-(d.size:Int)),.bool (decide (1048576-(d.size:Int)<at_)),g,.int .i64 at_,.func (.func 202) #[] #[.pointer (some ⟨O+1,0,none⟩),.pointer (some ⟨O+1+1,0,none⟩),.pointer (some ⟨O+1+1+1,0,none⟩)],undef,undef,undef,undef,.string d,.bool true,v,.int .i64 at_,.string d,.agg #[.int .i64 at_,.string d],v5,g,.int .i64 at_,.string d,.int .i64 d.size,.int .i64 (at_+(d.size:Int)),.func (.func 202) #[] #[.pointer (some ⟨M,0,none⟩),.pointer (some ⟨M+1,0,none⟩),.pointer (some ⟨M+1+1,0,none⟩)],.agg #[.int .i64 x.1.1,.string x.1.2],undef,undef,undef,undef],defers:=[] })
    (λx a' _ X Y ad hs hg hr=>by obtain⟨t,h1,h2⟩:=hs;exact⟨t,mm (β:=Unit) t _ _ () X Y ad h1 hg (λr e=>(hr r e).2),h2⟩)
    ?assign2 ?body2 ?done2 ?stop2
   case assign2 =>
    rintro lp a x W K ⟨⟨⟨⟨v,p,hv,_⟩,o⟩,mk⟩,j⟩ Z;simp only[encs]
    gi_wp2
    refine Z _ _ ((KeepsOthers.alloc _ _).from _) (Kept.still (MU _ _ _)) ⟨⟨⟨⟨v,p.alloc _,hv.alloc _,trivial⟩,o.alloc _⟩,(ML _ _ _ (qL mk)).trans mk⟩,j.alloc (by have:=j.size;omega) _⟩ ⟨W.1.size,MD _ _,rfl⟩
   case body2 =>
    rintro lp a x a' W _ _ ⟨⟨⟨⟨v,p,hv,_⟩,o⟩,mk⟩,j⟩ ⟨t,aa,rfl⟩ aw;have q:i<=W.1.size:=by have:=j.size;omega
    have cO:=p.cell;obtain⟨x0,x1⟩:=cU aa;have P:Hid (Fit (Bl.eC m (a.map (·.1)))/\x.1.2.size<=1048576):=⟨Bl.fit V.out.1 (by have:=V.out.2;omega) (yH (by omega) (Ng _) a) (by simp;omega),xQ (by omega) (Ng _) x⟩
    gi_wp2_with (refine⟨trivial,?_⟩;gi_at_call 181;refine (CallsIn.inRound lp (N8.2 (pR i v (Bl.eC m (a.map (·.1))) x.1 W hv q P.out.1 P.out.2))).mono ?_;rintro e w' ⟨v',rfl,b,f⟩;obtain⟨g',G,rfl⟩:=tD b (Bl.pJ _ _);obtain⟨N,k2,k3,k4,k5,J⟩:=yI p hv q hO b f;have ag:=N.cell;have ah:=N.frozen)
    have y:=(show jn _ M g (at_+(d.size:Int)) 1048576 from⟨J _ _ _ (by decide) (by omega) o.1,J _ _ _ (by decide) (by omega) o.2.1,J _ _ _ (by decide) (by omega) o.2.2⟩);exact⟨k4.from _,o.kept y k5,⟨⟨⟨_,k2,by rw[NO,Nx,N3,Bl.mX];exact k3,trivial⟩,y⟩,k4.same D _ mk rfl⟩,j.trans k5⟩
   case done2 =>
    rintro D2 zs W aF ap ⟨⟨⟨⟨v,p,hv,_⟩,o⟩,mk⟩,j⟩ F;rw[ap]at hv;have cO:=p.cell;go_wp2;have C:(W.putObj D2 (.deferred none)).1[D]?=some (.deferred (some [])):=(World.putObj_heap_other (by omega)).trans mk;refine⟨by simp,.inl ⟨_,_,rfl,run_takeDeferred F,by simp,.inl ⟨_,_,rfl,run_takeDeferred C,?_⟩⟩⟩;have E:=ownsRow_putObj (ownsRow_putObj hv (.deferred none) F rfl) (.deferred none) C rfl;have am:Below i w ((W.putObj D2 (.deferred none)).putObj D (.deferred none)):=(j.trans (belowK_b (w:=W4) (by omega) W D2 _ _ (by omega) F rfl rfl)).trans (belowK_b (w:=W0) (by omega) _ D _ _ (by omega) C rfl rfl);refine⟨.tuple #[v,.int .i64 0],by simp[results,Tryz.results159,go_sem],⟨v,rfl,?_,?_⟩⟩
    ·rw[I,Q.out];exact E
    ·rw[I];exact am
   case stop2 =>
    rintro D c a W _ _ h _;exact h.elim
 case stop =>
  rintro D c a W _ _ h _;exact h.elim
theorem EG (v)(l)(at_)(d)(w)(hv:cT w.1.size w v l)(eE:dQ l)(hd:d.size<=maxLen)(he:Bl.jV l at_ d≠0) :
  Calls Tryz.prog 159 #[v,.int .i64 at_,.string d] w λe w'=>e=.returned (.tuple #[.slice none 0 0,.int .i64 (Bl.jV l at_ d)])/\Bw w w':=by
 have c:Hid _:=hv;obtain⟨h,g,rfl,i,_⟩:=hv.open;clear hv;unfold maxLen at hd
 by_cases hr:Bl.right (-1) l
 ·have b:Hid (Bl.err l=0):=MC hr
  by_cases h0:at_<0
  ·have H:=hH<|show Bl.jV l at_ d=1 by unfold Bl.jV;rw[MC hr,MC h0]
   rw[H.out];clear he;go_enter Tryz.func159,Tryz.ntmps159;go_wp2_with fail;refine (du _ l _ c eE).mono ?_;rintro e f ⟨rfl,a⟩;rw[b.out];go_wp2
   go_ret2
   exact⟨rfl,a⟩
  ·by_cases h1:1048576-(d.size:Int)<at_
   ·have H:=hH<|show Bl.jV l at_ d=408 by unfold Bl.jV;rw[MC hr,ME h0,MC h1]
    rw[H.out];clear he;go_enter Tryz.func159,Tryz.ntmps159;go_wp2_with fail;refine (du _ l _ c eE).mono ?_;rintro e f ⟨rfl,a⟩;rw[b.out];go_wp2
    go_ret2
    exact⟨rfl,a⟩
   ·exact absurd (by unfold Bl.jV;rw[MC hr,ME h0,ME h1]) he
 ·have b:Hid (Bl.err l=80):=ME hr
  have H:Hid (Bl.jV l at_ d=80):=ME hr
  rw[H.out];clear he;go_enter Tryz.func159,Tryz.ntmps159;go_wp2_with fail;refine (du _ l _ c eE).mono ?_;rintro e f ⟨rfl,a⟩;rw[b.out];go_wp2
  go_ret2
  exact⟨rfl,a⟩
theorem Bl.tN {l:List Bl.R}{at_:Int}{d:ByteArray}(h:Bl.jV l at_ d=0):Bl.right (-1) l/\0<=at_/\at_+(d.size:Int)<=1048576:=by
 unfold Bl.jV at h;split at h
 ·split at h
  ·cases h
  ·split at h
   ·cases h
   ·exact⟨‹_›,qo,qo⟩
 ·cases h
theorem Du (v)(l)(at_)(d)(w)(hv:cT w.1.size w v l)(eE:dQ l)(hd:d.size<=maxLen) :
  Calls Tryz.prog 159 #[v,.int .i64 at_,.string d] w λe w'=>∃ r,e=.returned (.tuple #[r,.int .i64 (Bl.jV l at_ d)])/\w'.ownsRow w.1.size 114 2 r (Bl.rU l at_ d).length (cellsOf (Bl.rU l at_ d))/\Bw w w':=by
 by_cases he:Bl.jV l at_ d=0
 ·obtain⟨b,c,f⟩:=Bl.tN he;have a:Bl.rU l at_ d=Bl.write l at_ d:=by unfold Bl.rU;rw[MC he]
  rw[he,a];exact GK v l at_ d w hv eE b c f
 ·have a:Bl.rU l at_ d=[]:=by unfold Bl.rU;rw[ME he]
  rw[a];exact (EG v l at_ d w hv eE hd he).mono λe w' ⟨b,c⟩=>⟨_,b,NH _ _ _ _,c⟩
end Go.Proofs.YtiifhfmekbhlnaaGreat.Bs
namespace Go.Proofs.YtiifhfmekbhlnaaGreat.Bs
open ChangeShapes WideShapes ChangeAt RowKit Deep
namespace Bl
def fA (l:List R):Int:=if right (-1) l then dE 0 l else 0
theorem pD {l:List R}(h:l≠[])(a b):dE a l=dE b l:=by
 cases l with
 | nil=>exact absurd rfl h
 | cons r l=>rfl
end Bl
theorem x8 (v : Value)(l : List Bl.R)(w : World)(hv : cT w.1.size w v l)(eE : dQ l) :
  Calls Tryz.prog 146 #[v] w λe w'=>e=.returned (.int .i64 (Bl.fA l))/\Bw w w':=by
 have o:=hH hv;obtain⟨J,E,rfl,r,s⟩:=hv.open;clear hv;unfold maxLen at r
 by_cases hz:l=[]
 ·subst hz
  have H:=hH<|show Bl.fA []=0 by unfold Bl.fA;split <;> rfl
  rw[H.out];go_enter Tryz.func146,Tryz.ntmps146;go_wp2;go_ret;exact⟨rfl,MJ _ _⟩
 ·have A : 0<l.length := List.length_pos_iff.2 hz
  by_cases hr:Bl.right (-1) l
  ·obtain⟨b,g,rfl,t,j,m⟩ := s (l.length-1) (by omega)
   have q:Hid (Bl.err l=0):=MC hr
   obtain⟨x,c⟩:=qE (l.getD (l.length-1) (0,.empty));have d:x∈l:=by rw[<-c];simp[List.getD,List.getElem?_eq_getElem (show l.length-1<l.length by omega)]
   obtain⟨F,G,i⟩:=Bl.jk hr _ d;have H:=hH<|show Bl.fA l=x.1+x.2.size by
    have h:=Bl.ju (l:=l) (k:=l.length-1) (by omega) c;rw[show l.length-1+1=l.length by omega,Ns]at h;unfold Bl.fA;rw[MC hr,Bl.pD hz 0 (-1),h]
   rw[c]at j m;obtain⟨u,y⟩:=x;unfold Bl.ee at i;simp only at j m F G i H;replace i:u+(y.size:Int)<=1048576:=i;obtain⟨n,z⟩:=qE (l.length-1);have f:l.length=n+1:=by omega
   rw[z]at j m;rw[f]at o r |-;rw[H.out];have B:=hH eE;have C:((n+1:Nat):Int)-1=(n:Int):=by omega
   clear c d s A hz z f eE;go_enter Tryz.func146,Tryz.ntmps146;go_wp2_with fail;refine (du _ l _ o.out B.out).mono ?_;rintro e I ⟨rfl,a⟩;rw[q.out];rw[<-a.cell (p:=⟨b,g+n*2,none⟩) t]at j;rw[<-a.cell (p:=⟨b,g+n*2+1,none⟩) t]at m;go_wp2_with fail;refine (yF u y _ (by omega) (by omega)).mono ?_;rintro e K ⟨rfl,rfl⟩;go_wp2;go_ret;exact⟨rfl,a.alloc a.size _⟩
  ·have q : Hid (Bl.err l=80) := by show Bl.err l=80;unfold Bl.err;rw[ME hr]
   have H:Hid (Bl.fA l=0):=ME hr
   rw[H.out];have D:((l.length:Int)==0)=false:=MQ.2 (by omega);clear hz;go_enter Tryz.func146,Tryz.ntmps146;go_wp2_with fail;refine (du _ l _ o.out eE).mono ?_;rintro e I ⟨rfl,a⟩;rw[q.out];go_wp2;go_ret;exact⟨rfl,a⟩
end Go.Proofs.YtiifhfmekbhlnaaGreat.Bs
