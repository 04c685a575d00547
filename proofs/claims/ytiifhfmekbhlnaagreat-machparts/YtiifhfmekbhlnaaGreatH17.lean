/- Part 17. -/
import Derived.Test.YtiifhfmekbhlnaaGreatH16
set_option maxHeartbeats 8000000
set_option maxRecDepth 100000
set_option linter.unusedSimpArgs false
namespace Go.Proofs.YtiifhfmekbhlnaaGreat
open ChangeShapes WideShapes ChangeAt RowKit Deep It
namespace Nf
structure sv where
 e:Int
 no:Int
 gen:Int
 kind:Int
 cH:Int
 size:Int
 cF:Int
 data:ByteArray
 cE:List eA
 n:Int
def bad (e:Int):sv:=⟨e,0,0,0,0,0,0,⟨#[]⟩,[],0⟩
def told (E no gen:Int) (x:cL):sv:=if E=0 then ⟨0,no,gen,x.kind,x.cH,x.size,x.cF,⟨#[]⟩,[],0⟩ else bad E
noncomputable def AJ (L:List cL) (c:fw) (dn:Int):sv :=
 if gK L c.no c.gen 1 405≠0 then bad (gK L c.no c.gen 1 405)
 else if 512<c.data.size then bad 408
 else if Bs.Bl.jV (cY L c.no c.gen).runs c.pl c.data≠0 then bad (Bs.Bl.jV (cY L c.no c.gen).runs c.pl c.data)
 else if c.data.size=0 then ⟨0,0,0,(cY L c.no c.gen).kind,(cY L c.no c.gen).cH,(cY L c.no c.gen).size,(cY L c.no c.gen).cF,⟨#[]⟩,[],0⟩
 else if 8192<room L (cY L c.no c.gen) c then bad 407
 else ⟨dM L c.no c.gen (pH (cY L c.no c.gen) c dn),0,0,(pH (cY L c.no c.gen) c dn).kind,(pH (cY L c.no c.gen) c dn).cH,(pH (cY L c.no c.gen) c dn).size,(pH (cY L c.no c.gen) c dn).cF,⟨#[]⟩,[],0⟩
noncomputable def AW (L:List cL) (c:fw) (dn:Int):sv :=
 if gK L c.no c.gen 1 405=0 then
  if gE (cY L c.no c.gen) c.pl dn=0 then ⟨dM L c.no c.gen (C4 (cY L c.no c.gen) c dn),0,0,(cY L c.no c.gen).kind,(cY L c.no c.gen).cH,c.pl,dn,⟨#[]⟩,[],0⟩
  else bad (gE (cY L c.no c.gen) c.pl dn)
 else bad (gK L c.no c.gen 1 405)
noncomputable def Gi (L:List cL) (c:fw):sv:=told (Sp.lG (Sp.dW Sp.cZ) L c.no c.gen c.nm) (Sp.ti (Sp.dW Sp.cZ) L c.no c.gen c.nm).1 (Sp.ti (Sp.dW Sp.cZ) L c.no c.gen c.nm).2 (atR L (Sp.ti (Sp.dW Sp.cZ) L c.no c.gen c.nm).1)
noncomputable def Gv (L:List cL) (c:fw):sv:=told (cM L c.no c.gen) 0 0 (cY L c.no c.gen)
noncomputable def lr (L:List cL) (c:fw) (kind dn:Int):sv:=told (Sp.p6 (Sp.dW Sp.cZ) L c.no c.gen c.nm kind dn) (Sp.sL (Sp.dW Sp.cZ) L c.no c.gen c.nm kind dn).1 (Sp.sL (Sp.dW Sp.cZ) L c.no c.gen c.nm kind dn).2 (atR (Sp.vL (Sp.dW Sp.cZ) L c.no c.gen c.nm kind dn) (Sp.sL (Sp.dW Sp.cZ) L c.no c.gen c.nm kind dn).1)
noncomputable def nj (L:List cL) (c:fw) (kind dn:Int):List cL:=if Sp.p6 (Sp.dW Sp.cZ) L c.no c.gen c.nm kind dn=0 then Sp.vL (Sp.dW Sp.cZ) L c.no c.gen c.nm kind dn else L
noncomputable def C7 (L:List cL) (c:fw):sv:=⟨Km L c,0,0,0,0,0,0,KP L c,[],0⟩
noncomputable def y7 (L:List cL) (c:fw):sv:=⟨LH L c,0,0,0,0,0,0,⟨#[]⟩,JR L c,0⟩
noncomputable def CO (L:List cL) (c:fw) (dn:Int):sv:=told (Fg L c dn) 0 0 (atR (Fe L c dn) c.no)
noncomputable def CI (L:List cL) (O:List Os.dP) (cl:Int) (c:fw):sv:=⟨CC L O cl c,0,0,0,0,0,0,⟨#[]⟩,[],LC L O cl c⟩
noncomputable def rep (L:List cL) (O:List Os.dP) (dn cl:Int) (c:fw):sv :=
 if c.k=1 then Gi L c else if c.k=2 then Gv L c else if c.k=3 then lr L c 1 dn else if c.k=4 then lr L c 2 dn
 else if c.k=5 then C7 L c else if c.k=6 then AJ L c dn else if c.k=7 then AW L c dn else if c.k=8 then CO L c dn
 else if c.k=9 then bad (Kh L O c.no c.gen c.nm dn) else if c.k=10 then bad (Sp.yN (Sp.dW Sp.cZ) L c.no c.gen c.nm dn)
 else if c.k=11 then bad (Sp.yh (Sp.dW Sp.cZ) Sp.l7 L c.no c.gen c.nm c.jz c.fm c.lV dn) else if c.k=12 then y7 L c
 else if c.k=13 then CI L O cl c else bad (Kv L O cl c.n)
noncomputable def tab (L:List cL) (O:List Os.dP) (dn cl:Int) (c:fw):List cL :=
 if c.k=3 then nj L c 1 dn else if c.k=4 then nj L c 2 dn else if c.k=6 then yx L c dn else if c.k=7 then Gw L c dn else if c.k=8 then Fe L c dn
 else if c.k=9 then Kq L O c.no c.gen c.nm dn else if c.k=10 then J8 L c.no c.gen c.nm dn else if c.k=11 then vK L c.no c.gen c.nm c.jz c.fm c.lV dn
 else if c.k=14 then KH L O cl c.n else L
noncomputable def ops (L:List cL) (O:List Os.dP) (cl:Int) (c:fw):List Os.dP :=
 if c.k=13 then (if CC L O cl c=0 then Os.Op.opened O cl c.no c.gen else O) else if c.k=14 then (if Os.Op.eO O cl c.n=0 then Os.Op.closed O cl c.n else O) else O
end Nf
abbrev VR (r:Nf.sv) (v:Value):Value:=nr r.e r.no r.gen r.kind r.cH r.size r.cF r.data v r.n
theorem Nf.Fp (L)(c)(dn):VR (Nf.AJ L c dn) (.slice none 0 0)=Nf.GM L c dn/\(Nf.AJ L c dn).cE=[]:=by
 unfold Nf.AJ Nf.GM;split
 ·exact⟨rfl,rfl⟩
 ·split
  ·exact⟨rfl,rfl⟩
  ·split
   ·exact⟨rfl,rfl⟩
   ·split
    ·exact⟨rfl,rfl⟩
    ·split <;> exact⟨rfl,rfl⟩
theorem Nf.JS (L)(c)(dn):VR (Nf.AW L c dn) (.slice none 0 0)=Nf.KS L c dn/\(Nf.AW L c dn).cE=[]:=by
 unfold Nf.AW Nf.KS;split
 ·split <;> exact⟨rfl,rfl⟩
 ·exact⟨rfl,rfl⟩
theorem Nf.tF {E no gen:Int}{x:cL}{k l s t:Int}(h0:E=0->(k,l,s,t)=(x.kind,x.cH,x.size,x.cF))(h1:E≠0->(k,l,s,t)=(0,0,0,0)/\no=0/\gen=0):VR (Nf.told E no gen x) (.slice none 0 0)=nr E no gen k l s t ⟨#[]⟩ (.slice none 0 0) 0/\(Nf.told E no gen x).cE=[]:=by
 unfold Nf.told
 by_cases h:E=0
 ·have:=h0 h;simp only[Prod.mk.injEq]at this;obtain⟨rfl,rfl,rfl,rfl⟩:=this;rw[MC h];exact⟨by rw[h],rfl⟩
 ·obtain⟨a,rfl,rfl⟩:=h1 h;simp only[Prod.mk.injEq]at a;obtain⟨rfl,rfl,rfl,rfl⟩:=a;rw[ME h];exact⟨rfl,rfl⟩
def wP (S:Nat->Prop) (w:World) (B:Nat) (vs:Value) (dn cl:Int) (c:fw) (R:Nf.sv) (T:List cL) (Q:List Os.dP) (e:Ending) (w':World):Prop :=
 ∃ u uo ve L',e=.returned (VR R ve)/\w'.1[B]?=some (gj u uo vs dn cl c)/\cD (λb=>S b\/w.1.size<=b) w' u L'/\pl L'=T/\At Os.EO (λb=>S b\/w.1.size<=b) w' uo Q/\At EE (λb=>S b\/w.1.size<=b) w' ve R.cE/\w.grownBy w' (some B)
section
variable {S:Nat->Prop} {vi vo:Value} {vs:Value} {dn cl:Int} {c:fw} {L:List Rw} {B:Nat} {O:List Os.dP} {w:World}
theorem r8 {w':World}{v:Value}{L':List Rw}{T:Nat->Prop}(h:cD T w' v L')(hT:∀ b,T b->S b\/w.1.size<=b):cD (λb=>S b\/w.1.size<=b) w' v L':=h.imp (λb a _=>hT b a)
theorem oK {w':World}{e:Ending}{R:Nf.sv}{ve:Value}(hB:w.1[B]?=some (gj vi vo vs dn cl c))(hv:cD S w vi L)(ho:At Os.EO S w vo O)(he:e=.returned (VR R ve))(hen:At EE (λb=>S b\/w.1.size<=b) w' ve R.cE)(hb:Bw w w') :
  wP S w B vs dn cl c R (pl L) O e w' :=
 ⟨vi,vo,ve,L,he,(hb.block _ (qL hB)).trans hB,r8 (hv.up hb) (λ_ h=>.inl h),rfl,(ho.up hb).imp (λ_ h _=>.inl h),hen,cP hb _⟩
theorem m0 {w':World}{e:Ending}{R:Nf.sv}{u:Value}{T:List cL}(hv:cD S w vi L)(rZ:¬ S B)(ho:At Os.EO S w vo O)(he:e=.returned (VR R (.slice none 0 0)))(hen:R.cE=[])(hu:w'.1[B]?=some (gj u vo vs dn cl c))(hn:Nf.vJ (w.1.size+1) w' vi u (pl L) T) (hg:w.grownBy w' (some B)) :
  wP S w B vs dn cl c R T O e w':=by
 have a:At Os.EO (λb=>S b\/w.1.size<=b) w' vo O:=(ho.grown hg (λg h=>by cases h;exact rZ)).imp (λ_ h _=>.inl h);rcases hn with⟨rfl,rfl⟩ | ⟨d,f,i⟩
 ·exact⟨u,vo,_,L,he,hu,r8 (fL hv hg rZ) (λ_ h=>.inl h),rfl,a,by rw[hen];exact At.nil,hg⟩
 ·exact⟨u,vo,_,d,he,hu,r8 f (λb h=>.inr qo),i,a,by rw[hen];exact At.nil,hg⟩
end
theorem y8 {S:Nat->Prop}{vi vo vs u:Value}{dn cl:Int}{c:fw}{L L':List Rw}{B:Nat}{O:List Os.dP}{w W w1:World}{kind E qa qb k l s t:Int}(hv:cD S w vi L)(rZ:¬ S B)(ho:At Os.EO S w vo O)(hBl:B<w.1.size)(hWs:w.1.size<W.1.size)(hE:Sp.p6 (Sp.dW Sp.cZ) (pl L) c.no c.gen c.nm kind dn=E)(hq:Sp.sL (Sp.dW Sp.cZ) (pl L) c.no c.gen c.nm kind dn=(qa,qb))(hu:w1.1[B]?=some (gj (Nf.A1 E u vi) vo vs dn cl c))(ht:cD (λb=>W.1.size<b) w1 u L')(hp:pl L'=Sp.vL (Sp.dW Sp.cZ) (pl L) c.no c.gen c.nm kind dn)(ha:Nf.KO E (pl L') qa (k,l,s,t))(hg:w.grownBy w1 (some B)) :
  wP S w B vs dn cl c (Nf.lr (pl L) c kind dn) (Nf.nj (pl L) c kind dn) O (.returned (nr E qa qb k l s t ⟨#[]⟩ (.slice none 0 0) 0)) (w1.setCells w.1.size 0 (cV E qa qb k l s t)):=by
 have d:w.grownBy (w1.setCells w.1.size 0 (cV E qa qb k l s t)) (some B):=gZ (.inl (MI _)) _ _ _ hg;have f:(w1.setCells w.1.size 0 (cV E qa qb k l s t)).1[B]?=some (gj (Nf.A1 E u vi) vo vs dn cl c):=(dq _ _ _ (by omega)).trans hu;have a:VR (Nf.lr (pl L) c kind dn) (.slice none 0 0)=nr E qa qb k l s t ⟨#[]⟩ (.slice none 0 0) 0/\(Nf.lr (pl L) c kind dn).cE=[]:=by
  unfold Nf.lr;rw[hE,hq];refine Nf.tF (λh=>?_) (λh=>?_)
  ·have:=ha.1 h;rw[hp]at this;exact this
  ·exact⟨ha.2 h,Dc (by rw[hE];exact h) hq⟩
 refine m0 (u:=Nf.A1 E u vi) hv rZ ho (by rw[a.1]) a.2 f ?_ d;unfold Nf.nj Nf.A1;rw[hE]
 by_cases h:E=0
 ·rw[MC h,MC h];exact .inr ⟨L',(df (A:=w.1.size) (S:=λb=>W.1.size<b) (by omega) _ _ _ ht).imp (λb g _=>by omega),hp⟩
 ·rw[ME h,ME h];exact .inl ⟨rfl,rfl⟩
theorem B0 {S:Nat->Prop}(vi vo vs)(dn cl)(c)(L)(B)(O:List Os.dP)(w:World)(hB:w.1[B]?=some (gj vi vo vs dn cl c))(hv:cD S w vi L)(rZ:¬ S B)(ho:At Os.EO S w vo O)(eE:Sp.m6 L)(hs:c.nm.size<=maxLen) :
  Calls Tryz.prog 130 #[.pointer (some ⟨B,0,none⟩)] w λe w'=>wP S w B vs dn cl c (Nf.lr (pl L) c 1 dn) (Nf.nj (pl L) c 1 dn) O e w':=by
 have f:=(qL hB);obtain⟨W,r⟩:=qF (w.alloc fJ);have a:Hid _:=qB r;have d:Hid _:=qC r;have g:=qK a hB;have h:=hH hv;have z:=hH ho;have i:=hH eE;have j:=hH hs;have m:=(qL d);have I:B≠w.1.size:=qo
 obtain⟨E,J⟩:=qE (Sp.p6 (Sp.dW Sp.cZ) (pl L) c.no c.gen c.nm 1 dn);obtain⟨q,x,K⟩:∃ q x,Sp.sL (Sp.dW Sp.cZ) (pl L) c.no c.gen c.nm 1 dn=(q,x):=⟨_,_,rfl⟩;have n:=hH J;have o:=hH K;clear hB hv ho J K eE hs;go_enter Tryz.func130,Tryz.ntmps130;go_wp2_with fail;rw[<-r];clear r;refine (wE vi vo vs dn cl c L B 1 W g (h.up a) i j).mono ?_;rw[n.out,o.out];rintro e y ⟨u,G,k,l,s,t,rfl,M,N,P,Q,H⟩;have R:=hH M;have A:=hH N;have C:=hH P;have D:=hH Q;have F:=hH<|cQ (cP a.out _) H;have p:=hH<|(H.block _ m qt).trans d;obtain⟨U,V,X,Y,Z,g5,g6,g7,g8,g9⟩:=ev p;have T:=dw p;clear M N P Q H i j g d a;go_wp2
 (try simp only[Exit.inBlock,Exit.then])
 refine MK (v:=nr E q x k l s t ⟨#[]⟩ (.slice none 0 0) 0) ?_ rfl ?_
 ·rw[cN rfl]
  go_simp
 ·exact y8 h rZ z f m n o R A C D F
theorem CD {S:Nat->Prop}(vi vo vs)(dn cl)(c)(L)(B)(O:List Os.dP)(w:World)(hB:w.1[B]?=some (gj vi vo vs dn cl c))(hv:cD S w vi L)(rZ:¬ S B)(ho:At Os.EO S w vo O)(eE:Sp.m6 L)(hs:c.nm.size<=maxLen) :
  Calls Tryz.prog 131 #[.pointer (some ⟨B,0,none⟩)] w λe w'=>wP S w B vs dn cl c (Nf.lr (pl L) c 2 dn) (Nf.nj (pl L) c 2 dn) O e w':=by
 have f:=(qL hB);obtain⟨W,r⟩:=qF (w.alloc fJ);have a:Hid _:=qB r;have d:Hid _:=qC r;have g:=qK a hB;have h:=hH hv;have z:=hH ho;have i:=hH eE;have j:=hH hs;have m:=(qL d);have I:B≠w.1.size:=qo
 obtain⟨E,J⟩:=qE (Sp.p6 (Sp.dW Sp.cZ) (pl L) c.no c.gen c.nm 2 dn);obtain⟨q,x,K⟩:∃ q x,Sp.sL (Sp.dW Sp.cZ) (pl L) c.no c.gen c.nm 2 dn=(q,x):=⟨_,_,rfl⟩;have n:=hH J;have o:=hH K;clear hB hv ho J K eE hs;go_enter Tryz.func131,Tryz.ntmps131;go_wp2_with fail;rw[<-r];clear r;refine (wE vi vo vs dn cl c L B 2 W g (h.up a) i j).mono ?_;rw[n.out,o.out];rintro e y ⟨u,G,k,l,s,t,rfl,M,N,P,Q,H⟩;have R:=hH M;have A:=hH N;have C:=hH P;have D:=hH Q;have F:=hH<|cQ (cP a.out _) H;have p:=hH<|(H.block _ m qt).trans d;obtain⟨U,V,X,Y,Z,g5,g6,g7,g8,g9⟩:=ev p;have T:=dw p;clear M N P Q H i j g d a;go_wp2
 (try simp only[Exit.inBlock,Exit.then])
 refine MK (v:=nr E q x k l s t ⟨#[]⟩ (.slice none 0 0) 0) ?_ rfl ?_
 ·rw[cN rfl]
  go_simp
 ·exact y8 h rZ z f m n o R A C D F
structure Tk (S:Nat->Prop) (vi vo:Value) (sp:Option Addr) (sn sc:Nat) (dn cl:Int) (c:fw) (L:List Rw) (B:Nat) (O:List Os.dP) (w:World):Prop where
 hB:w.1[B]?=some (gj vi vo (.slice sp sn sc) dn cl c)
 hv:cD S w vi L
 rZ:¬ S B
 ho:At Os.EO S w vo O
 eE:Sp.m6 L
 hs:c.nm.size<=maxLen
 xo:c.lV.size<=maxLen
 hd:c.data.size<=maxLen
 Ml:∀ x∈O,names (pl L) x.2.2.1 x.2.2.2=true
theorem Ed {S:Nat->Prop}{vi vo:Value}{sp:Option Addr}{sn sc:Nat}{dn cl:Int}{c:fw}{L:List Rw}{B:Nat}{O:List Os.dP}{w:World}(g:Tk S vi vo sp sn sc dn cl c L B O w)(hk:c.k=1) :
  Calls Tryz.prog 128 #[.pointer (some ⟨B,0,none⟩)] w λe w'=>wP S w B (.slice sp sn sc) dn cl c (Nf.rep (pl L) O dn cl c) (Nf.tab (pl L) O dn cl c) (Nf.ops (pl L) O cl c) e w':=by
 have d:Nf.rep (pl L) O dn cl c=Nf.Gi (pl L) c:=by simp[Nf.rep,hk]
 have f:Nf.tab (pl L) O dn cl c=pl L:=by simp[Nf.tab,hk]
 have i:Nf.ops (pl L) O cl c=O:=by simp[Nf.ops,hk]
 rw[d,f,i];refine (DE vi vo (.slice sp sn sc) dn cl c L B w g.hB g.hv g.eE g.hs).mono ?_;rintro e w' ⟨k,l,s,t,rfl,a,j⟩;have b:=Nf.tF (E:=Sp.lG (Sp.dW Sp.cZ) (pl L) c.no c.gen c.nm) (no:=(Sp.ti (Sp.dW Sp.cZ) (pl L) c.no c.gen c.nm).1) (gen:=(Sp.ti (Sp.dW Sp.cZ) (pl L) c.no c.gen c.nm).2) (x:=Nf.atR (pl L) (Sp.ti (Sp.dW Sp.cZ) (pl L) c.no c.gen c.nm).1) (k:=k) (l:=l) (s:=s) (t:=t) (λh=>by rw[MC h]at a;exact a) (λh=>by rw[ME h]at a;exact⟨a,C1 h rfl⟩);exact oK g.hB g.hv g.ho (by rw[<-b.1];rfl) (by unfold Nf.Gi;rw[b.2];exact At.nil) j
theorem DL {S:Nat->Prop}{vi vo:Value}{sp:Option Addr}{sn sc:Nat}{dn cl:Int}{c:fw}{L:List Rw}{B:Nat}{O:List Os.dP}{w:World}(g:Tk S vi vo sp sn sc dn cl c L B O w)(hk:c.k=2) :
  Calls Tryz.prog 129 #[.pointer (some ⟨B,0,none⟩)] w λe w'=>wP S w B (.slice sp sn sc) dn cl c (Nf.rep (pl L) O dn cl c) (Nf.tab (pl L) O dn cl c) (Nf.ops (pl L) O cl c) e w':=by
 have b:Nf.rep (pl L) O dn cl c=Nf.Gv (pl L) c:=by simp[Nf.rep,hk]
 have d:Nf.tab (pl L) O dn cl c=pl L:=by simp[Nf.tab,hk]
 have f:Nf.ops (pl L) O cl c=O:=by simp[Nf.ops,hk]
 rw[b,d,f];refine (EX vi vo (.slice sp sn sc) dn cl c L B w g.hB g.hv).mono ?_;rintro e w' ⟨rfl,i⟩;have a:=Nf.tF (E:=cM (pl L) c.no c.gen) (no:=0) (gen:=0) (x:=cY (pl L) c.no c.gen) (k:=(cY (pl L) c.no c.gen).kind) (l:=(cY (pl L) c.no c.gen).cH) (s:=(cY (pl L) c.no c.gen).size) (t:=(cY (pl L) c.no c.gen).cF) (λ_=>rfl) (λh=>⟨by unfold cY;rw[ME h];rfl,rfl,rfl⟩);exact oK g.hB g.hv g.ho (by rw[<-a.1];rfl) (by unfold Nf.Gv;rw[a.2];exact At.nil) i
theorem E6 {S:Nat->Prop}{vi vo:Value}{sp:Option Addr}{sn sc:Nat}{dn cl:Int}{c:fw}{L:List Rw}{B:Nat}{O:List Os.dP}{w:World}(g:Tk S vi vo sp sn sc dn cl c L B O w)(hk:c.k=3) :
  Calls Tryz.prog 130 #[.pointer (some ⟨B,0,none⟩)] w λe w'=>wP S w B (.slice sp sn sc) dn cl c (Nf.rep (pl L) O dn cl c) (Nf.tab (pl L) O dn cl c) (Nf.ops (pl L) O cl c) e w':=by
 have a:Nf.rep (pl L) O dn cl c=Nf.lr (pl L) c 1 dn:=by simp[Nf.rep,hk]
 have b:Nf.tab (pl L) O dn cl c=Nf.nj (pl L) c 1 dn:=by simp[Nf.tab,hk]
 have d:Nf.ops (pl L) O cl c=O:=by simp[Nf.ops,hk]
 rw[a,b,d];exact B0 vi vo (.slice sp sn sc) dn cl c L B O w g.hB g.hv g.rZ g.ho g.eE g.hs
theorem Dx {S:Nat->Prop}{vi vo:Value}{sp:Option Addr}{sn sc:Nat}{dn cl:Int}{c:fw}{L:List Rw}{B:Nat}{O:List Os.dP}{w:World}(g:Tk S vi vo sp sn sc dn cl c L B O w)(hk:c.k=4) :
  Calls Tryz.prog 131 #[.pointer (some ⟨B,0,none⟩)] w λe w'=>wP S w B (.slice sp sn sc) dn cl c (Nf.rep (pl L) O dn cl c) (Nf.tab (pl L) O dn cl c) (Nf.ops (pl L) O cl c) e w':=by
 have a:Nf.rep (pl L) O dn cl c=Nf.lr (pl L) c 2 dn:=by simp[Nf.rep,hk]
 have b:Nf.tab (pl L) O dn cl c=Nf.nj (pl L) c 2 dn:=by simp[Nf.tab,hk]
 have d:Nf.ops (pl L) O cl c=O:=by simp[Nf.ops,hk]
 rw[a,b,d];exact CD vi vo (.slice sp sn sc) dn cl c L B O w g.hB g.hv g.rZ g.ho g.eE g.hs
theorem D4 {S:Nat->Prop}{vi vo:Value}{sp:Option Addr}{sn sc:Nat}{dn cl:Int}{c:fw}{L:List Rw}{B:Nat}{O:List Os.dP}{w:World}(g:Tk S vi vo sp sn sc dn cl c L B O w)(hk:c.k=5) :
  Calls Tryz.prog 132 #[.pointer (some ⟨B,0,none⟩)] w λe w'=>wP S w B (.slice sp sn sc) dn cl c (Nf.rep (pl L) O dn cl c) (Nf.tab (pl L) O dn cl c) (Nf.ops (pl L) O cl c) e w':=by
 have a:Nf.rep (pl L) O dn cl c=Nf.C7 (pl L) c:=by simp[Nf.rep,hk]
 have b:Nf.tab (pl L) O dn cl c=pl L:=by simp[Nf.tab,hk]
 have d:Nf.ops (pl L) O cl c=O:=by simp[Nf.ops,hk]
 rw[a,b,d];refine (DS vi vo (.slice sp sn sc) dn cl c L B w g.hB g.hv).mono ?_;rintro e w' ⟨rfl,f⟩;exact oK g.hB g.hv g.ho (ve:=.slice none 0 0) rfl At.nil f
theorem Er {S:Nat->Prop}{vi vo:Value}{sp:Option Addr}{sn sc:Nat}{dn cl:Int}{c:fw}{L:List Rw}{B:Nat}{O:List Os.dP}{w:World}(g:Tk S vi vo sp sn sc dn cl c L B O w)(hk:c.k=6) :
  Calls Tryz.prog 133 #[.pointer (some ⟨B,0,none⟩)] w λe w'=>wP S w B (.slice sp sn sc) dn cl c (Nf.rep (pl L) O dn cl c) (Nf.tab (pl L) O dn cl c) (Nf.ops (pl L) O cl c) e w':=by
 have a:Nf.rep (pl L) O dn cl c=Nf.AJ (pl L) c dn:=by simp[Nf.rep,hk]
 have b:Nf.tab (pl L) O dn cl c=Nf.yx (pl L) c dn:=by simp[Nf.tab,hk]
 have d:Nf.ops (pl L) O cl c=O:=by simp[Nf.ops,hk]
 rw[a,b,d];refine (Cw vi vo (.slice sp sn sc) dn cl c L B w g.hB g.hv g.hd).mono ?_;rintro e w' ⟨u,rfl,f,h,i⟩;exact m0 g.hv g.rZ g.ho (by rw[<-(Nf.Fp (pl L) c dn).1]) (Nf.Fp (pl L) c dn).2 f h i
theorem E3 {S:Nat->Prop}{vi vo:Value}{sp:Option Addr}{sn sc:Nat}{dn cl:Int}{c:fw}{L:List Rw}{B:Nat}{O:List Os.dP}{w:World}(g:Tk S vi vo sp sn sc dn cl c L B O w)(hk:c.k=7) :
  Calls Tryz.prog 134 #[.pointer (some ⟨B,0,none⟩)] w λe w'=>wP S w B (.slice sp sn sc) dn cl c (Nf.rep (pl L) O dn cl c) (Nf.tab (pl L) O dn cl c) (Nf.ops (pl L) O cl c) e w':=by
 have a:Nf.rep (pl L) O dn cl c=Nf.AW (pl L) c dn:=by simp[Nf.rep,hk]
 have b:Nf.tab (pl L) O dn cl c=Nf.Gw (pl L) c dn:=by simp[Nf.tab,hk]
 have d:Nf.ops (pl L) O cl c=O:=by simp[Nf.ops,hk]
 rw[a,b,d];refine (Ib vi vo (.slice sp sn sc) dn cl c L B w g.hB g.hv).mono ?_;rintro e w' ⟨u,rfl,f,h,i⟩;exact m0 g.hv g.rZ g.ho (by rw[<-(Nf.JS (pl L) c dn).1]) (Nf.JS (pl L) c dn).2 f h i
theorem Ei {S:Nat->Prop}{vi vo:Value}{sp:Option Addr}{sn sc:Nat}{dn cl:Int}{c:fw}{L:List Rw}{B:Nat}{O:List Os.dP}{w:World}(g:Tk S vi vo sp sn sc dn cl c L B O w)(hk:c.k=8) :
  Calls Tryz.prog 135 #[.pointer (some ⟨B,0,none⟩)] w λe w'=>wP S w B (.slice sp sn sc) dn cl c (Nf.rep (pl L) O dn cl c) (Nf.tab (pl L) O dn cl c) (Nf.ops (pl L) O cl c) e w':=by
 have d:Nf.rep (pl L) O dn cl c=Nf.CO (pl L) c dn:=by simp[Nf.rep,hk]
 have f:Nf.tab (pl L) O dn cl c=Nf.Fe (pl L) c dn:=by simp[Nf.tab,hk]
 have i:Nf.ops (pl L) O cl c=O:=by simp[Nf.ops,hk]
 rw[d,f,i];refine (Ej vi vo (.slice sp sn sc) dn cl c L B w g.hB g.hv g.eE g.hs).mono ?_;rintro e w' ⟨u,k,l,s,t,rfl,j,m,b,n⟩;have a:=Nf.tF (E:=Nf.Fg (pl L) c dn) (no:=0) (gen:=0) (x:=Nf.atR (Nf.Fe (pl L) c dn) c.no) (k:=k) (l:=l) (s:=s) (t:=t) b.1 (λh=>⟨b.2 h,rfl,rfl⟩);exact m0 g.hv g.rZ g.ho (by rw[<-a.1];rfl) a.2 j m n
theorem Dp {S:Nat->Prop}{vi vo:Value}{sp:Option Addr}{sn sc:Nat}{dn cl:Int}{c:fw}{L:List Rw}{B:Nat}{O:List Os.dP}{w:World}(g:Tk S vi vo sp sn sc dn cl c L B O w)(hk:c.k=9) :
  Calls Tryz.prog 136 #[.pointer (some ⟨B,0,none⟩)] w λe w'=>wP S w B (.slice sp sn sc) dn cl c (Nf.rep (pl L) O dn cl c) (Nf.tab (pl L) O dn cl c) (Nf.ops (pl L) O cl c) e w':=by
 have a:Nf.rep (pl L) O dn cl c=Nf.bad (Nf.Kh (pl L) O c.no c.gen c.nm dn):=by simp[Nf.rep,hk]
 have b:Nf.tab (pl L) O dn cl c=Nf.Kq (pl L) O c.no c.gen c.nm dn:=by simp[Nf.tab,hk]
 have d:Nf.ops (pl L) O cl c=O:=by simp[Nf.ops,hk]
 rw[a,b,d];refine (AI vi vo sp sn sc dn cl c L B w g.hB g.hv g.rZ O g.ho g.eE g.hs (λh=>(Sp.FO h).1)).mono ?_;rintro e w' ⟨u,rfl,f,i,j⟩;exact m0 g.hv g.rZ g.ho rfl rfl f i j
theorem Bu {S:Nat->Prop}{vi vo:Value}{sp:Option Addr}{sn sc:Nat}{dn cl:Int}{c:fw}{L:List Rw}{B:Nat}{O:List Os.dP}{w:World}(g:Tk S vi vo sp sn sc dn cl c L B O w)(hk:c.k=10) :
  Calls Tryz.prog 137 #[.pointer (some ⟨B,0,none⟩)] w λe w'=>wP S w B (.slice sp sn sc) dn cl c (Nf.rep (pl L) O dn cl c) (Nf.tab (pl L) O dn cl c) (Nf.ops (pl L) O cl c) e w':=by
 have a:Nf.rep (pl L) O dn cl c=Nf.bad (Sp.yN (Sp.dW Sp.cZ) (pl L) c.no c.gen c.nm dn):=by simp[Nf.rep,hk]
 have b:Nf.tab (pl L) O dn cl c=Nf.J8 (pl L) c.no c.gen c.nm dn:=by simp[Nf.tab,hk]
 have d:Nf.ops (pl L) O cl c=O:=by simp[Nf.ops,hk]
 rw[a,b,d];refine (BY vi vo (.slice sp sn sc) dn cl c L B w g.hB g.hv g.eE g.hs).mono ?_;rintro e w' ⟨u,rfl,f,h,i⟩;exact m0 g.hv g.rZ g.ho rfl rfl f h i
theorem Cr {S:Nat->Prop}{vi vo:Value}{sp:Option Addr}{sn sc:Nat}{dn cl:Int}{c:fw}{L:List Rw}{B:Nat}{O:List Os.dP}{w:World}(g:Tk S vi vo sp sn sc dn cl c L B O w)(hk:c.k=11) :
  Calls Tryz.prog 138 #[.pointer (some ⟨B,0,none⟩)] w λe w'=>wP S w B (.slice sp sn sc) dn cl c (Nf.rep (pl L) O dn cl c) (Nf.tab (pl L) O dn cl c) (Nf.ops (pl L) O cl c) e w':=by
 have a:Nf.rep (pl L) O dn cl c=Nf.bad (Sp.yh (Sp.dW Sp.cZ) Sp.l7 (pl L) c.no c.gen c.nm c.jz c.fm c.lV dn):=by simp[Nf.rep,hk]
 have b:Nf.tab (pl L) O dn cl c=Nf.vK (pl L) c.no c.gen c.nm c.jz c.fm c.lV dn:=by simp[Nf.tab,hk]
 have d:Nf.ops (pl L) O cl c=O:=by simp[Nf.ops,hk]
 rw[a,b,d];refine (zD vi vo (.slice sp sn sc) dn cl c L B w g.hB g.hv g.eE g.hs g.xo).mono ?_;rintro e w' ⟨u,rfl,f,h,i⟩;exact m0 g.hv g.rZ g.ho rfl rfl f h i
theorem Bj {S:Nat->Prop}{vi vo:Value}{sp:Option Addr}{sn sc:Nat}{dn cl:Int}{c:fw}{L:List Rw}{B:Nat}{O:List Os.dP}{w:World}(g:Tk S vi vo sp sn sc dn cl c L B O w)(hk:c.k=12) :
  Calls Tryz.prog 139 #[.pointer (some ⟨B,0,none⟩)] w λe w'=>wP S w B (.slice sp sn sc) dn cl c (Nf.rep (pl L) O dn cl c) (Nf.tab (pl L) O dn cl c) (Nf.ops (pl L) O cl c) e w':=by
 have a:Nf.rep (pl L) O dn cl c=Nf.y7 (pl L) c:=by simp[Nf.rep,hk]
 have d:Nf.tab (pl L) O dn cl c=pl L:=by simp[Nf.tab,hk]
 have f:Nf.ops (pl L) O cl c=O:=by simp[Nf.ops,hk]
 rw[a,d,f];refine (DX vi vo (.slice sp sn sc) dn cl c L B w g.hB g.hv g.eE).mono ?_;rintro e w' ⟨p,j,q,rfl,h,i⟩;exact oK g.hB g.hv g.ho (ve:=.slice p j q) rfl (h.imp (λb l _=>.inr qo)) i
theorem Bk {S:Nat->Prop}{vi vo:Value}{sp:Option Addr}{sn sc:Nat}{dn cl:Int}{c:fw}{L:List Rw}{B:Nat}{O:List Os.dP}{w:World}(g:Tk S vi vo sp sn sc dn cl c L B O w)(hk:c.k=13) :
  Calls Tryz.prog 140 #[.pointer (some ⟨B,0,none⟩)] w λe w'=>wP S w B (.slice sp sn sc) dn cl c (Nf.rep (pl L) O dn cl c) (Nf.tab (pl L) O dn cl c) (Nf.ops (pl L) O cl c) e w':=by
 have d:Nf.rep (pl L) O dn cl c=Nf.CI (pl L) O cl c:=by simp[Nf.rep,hk]
 have f:Nf.tab (pl L) O dn cl c=pl L:=by simp[Nf.tab,hk]
 have i:Nf.ops (pl L) O cl c=if Nf.CC (pl L) O cl c=0 then Os.Op.opened O cl c.no c.gen else O:=by simp[Nf.ops,hk]
 rw[d,f,i];refine (Eg vi vo (.slice sp sn sc) dn cl c L B w g.hB g.hv O g.ho.wide).mono ?_;rintro e w' ⟨u,rfl,j,l,a⟩;refine⟨vi,Nf.A1 (Nf.CC (pl L) O cl c) u vo,.slice none 0 0,L,rfl,j,r8 (fL g.hv a g.rZ) (λ_ h=>.inl h),rfl,?_,At.nil,a⟩;unfold Nf.A1
 by_cases h:Nf.CC (pl L) O cl c=0
 ·rw[MC h,MC h];exact (l h).imp (λb n _=>.inr qo)
 ·rw[ME h,ME h];exact (g.ho.grown a (λg m=>by cases m;exact g.rZ)).imp (λ_ h _=>.inl h)
theorem A6 {S:Nat->Prop}{vi vo:Value}{sp:Option Addr}{sn sc:Nat}{dn cl:Int}{c:fw}{L:List Rw}{B:Nat}{O:List Os.dP}{w:World}(g:Tk S vi vo sp sn sc dn cl c L B O w)(hk:c.k=14) :
  Calls Tryz.prog 141 #[.pointer (some ⟨B,0,none⟩)] w λe w'=>wP S w B (.slice sp sn sc) dn cl c (Nf.rep (pl L) O dn cl c) (Nf.tab (pl L) O dn cl c) (Nf.ops (pl L) O cl c) e w':=by
 have i:Nf.rep (pl L) O dn cl c=Nf.bad (Nf.Kv (pl L) O cl c.n):=by simp[Nf.rep,hk]
 have j:Nf.tab (pl L) O dn cl c=Nf.KH (pl L) O cl c.n:=by simp[Nf.tab,hk]
 have l:Nf.ops (pl L) O cl c=if Os.Op.eO O cl c.n=0 then Os.Op.closed O cl c.n else O:=by simp[Nf.ops,hk]
 rw[i,j,l];refine (BG vi vo sp sn sc dn cl c L B w g.hB g.hv g.rZ O g.ho.wide (λh=>?_)).mono ?_
 ·unfold Os.Op.eO at h;unfold Os.Op.gq
  by_cases h0:Os.Op.ask O cl=0
  ·rw[MC h0]at h |-
   cases hf:O.find? (Os.Op.js cl c.n)with
   | none=>rw[hf]at h;exact absurd h qd
   | some x=>exact g.Ml x (Pe hf)
  ·rw[ME h0]at h;exact absurd h h0
 rintro e w' ⟨u,m,rfl,f,o,p,a⟩;have g.ho':At Os.EO (λb=>S b\/w.1.size<=b) w' (Nf.A1 (Os.Op.eO O cl c.n) m vo) (if Os.Op.eO O cl c.n=0 then Os.Op.closed O cl c.n else O):=by
  unfold Nf.A1
  by_cases h:Os.Op.eO O cl c.n=0
  ·rw[MC h,MC h];exact (p h).imp (λb t _=>.inr qo)
  ·rw[ME h,ME h];exact (g.ho.grown a (λg s=>by cases s;exact g.rZ)).imp (λ_ h _=>.inl h)
 rcases o with⟨rfl,d⟩ | ⟨q,d,r⟩
 ·exact⟨u,_,.slice none 0 0,L,rfl,f,r8 (fL g.hv a g.rZ) (λ_ h=>.inl h),d.symm,g.ho',At.nil,a⟩
 ·exact⟨u,_,.slice none 0 0,q,rfl,f,r8 d (λb h=>.inr qo),r,g.ho',At.nil,a⟩
abbrev Il (r:Nf.sv) (v:Value):Obj:=Gk r.e r.no r.gen r.kind r.cH r.size r.cF r.data v r.n
abbrev cS (vi vo vs:Value) (dn:Int):List Value:=[vi,vo,vs,.int .i64 dn]
abbrev cR (r:Nf.sv) (v:Value):List Value:=[.int .i64 r.e,.int .i64 r.no,.int .i64 r.gen,.int .i64 r.kind,.int .i64 r.cH,.int .i64 r.size,.int .i64 r.cF,.string r.data,v,.int .i64 r.n]
abbrev sI:Obj:=gB (.slice none 0 0) (.slice none 0 0) (.slice none 0 0) 0
theorem xF {P:Program}{o:Oper}{a:Act}{w:World}{K:Act->World->Prop}{Q:Exit->Act->World->Prop}{x:Operand}{f B:Nat}{Post:Ending->World->Prop}(hop:o.op=.call { callee:=.value x,args:=#[],argTypes:=#[] })(hx:a.eval x=wT f B)(hf:∀ w,(callFunc f #[.pointer (some ⟨B,0,none⟩)]).run P w=.ok (.enter f #[.pointer (some ⟨B,0,none⟩)]) w)(hC:Calls P f #[.pointer (some ⟨B,0,none⟩)] w Post)(h:∀ e w',Post e w'->∃ v,e=.returned v/\K (a.put o.dst v) w'):Oper.wp P o a w K Q:=by
 unfold Oper.wp;have b:(execOp a.eval o).run P w=.ok (.enter f #[.pointer (some ⟨B,0,none⟩)]) w:=by
  rw[<-hf w];unfold execOp;simp only[hop];unfold resolve;simp only[hx,Deferred.ofValue];simp[invoke]
 rw[b];show Calls P f _ w _;refine hC.mono ?_;intro e w' c;obtain⟨v,rfl,d⟩:=h e w' c;exact d
def iL (B:Nat) (c:fw) (f j:Nat):Prop:=Ym.gI (Nf.np B) c.k 0=some (j,wT f B)/\(∀ w,(callFunc f #[.pointer (some ⟨B,0,none⟩)]).run Tryz.prog w=.ok (.enter f #[.pointer (some ⟨B,0,none⟩)]) w) /\
 ∀ {S:Nat->Prop} {vi vo:Value} {sp:Option Addr} {sn sc:Nat} {dn cl:Int} {L:List Rw} {O:List Os.dP} {w:World},Tk S vi vo sp sn sc dn cl c L B O w->Calls Tryz.prog f #[.pointer (some ⟨B,0,none⟩)] w λe w'=>wP S w B (.slice sp sn sc) dn cl c (Nf.rep (pl L) O dn cl c) (Nf.tab (pl L) O dn cl c) (Nf.ops (pl L) O cl c) e w'
theorem KT (B){c:fw}(hk:c.k=1):iL B c 128 0:=by
 refine⟨?_,λw=>(by go_simp),λg=>Ed g hk⟩;rw[hk];simp[Nf.np,Ym.gI]
theorem Lx (B){c:fw}(hk:c.k=2):iL B c 129 1:=by
 refine⟨?_,λw=>(by go_simp),λg=>DL g hk⟩;rw[hk];simp[Nf.np,Ym.gI]
theorem Lg (B){c:fw}(hk:c.k=3):iL B c 130 2:=by
 refine⟨?_,λw=>(by go_simp),λg=>E6 g hk⟩;rw[hk];simp[Nf.np,Ym.gI]
theorem La (B){c:fw}(hk:c.k=4):iL B c 131 3:=by
 refine⟨?_,λw=>(by go_simp),λg=>Dx g hk⟩;rw[hk];simp[Nf.np,Ym.gI]
theorem KZ (B){c:fw}(hk:c.k=5):iL B c 132 4:=by
 refine⟨?_,λw=>(by go_simp),λg=>D4 g hk⟩;rw[hk];simp[Nf.np,Ym.gI]
theorem Lt (B){c:fw}(hk:c.k=6):iL B c 133 5:=by
 refine⟨?_,λw=>(by go_simp),λg=>Er g hk⟩;rw[hk];simp[Nf.np,Ym.gI]
theorem Lb (B){c:fw}(hk:c.k=7):iL B c 134 6:=by
 refine⟨?_,λw=>(by go_simp),λg=>E3 g hk⟩;rw[hk];simp[Nf.np,Ym.gI]
theorem Lq (B){c:fw}(hk:c.k=8):iL B c 135 7:=by
 refine⟨?_,λw=>(by go_simp),λg=>Ei g hk⟩;rw[hk];simp[Nf.np,Ym.gI]
theorem Lc (B){c:fw}(hk:c.k=9):iL B c 136 8:=by
 refine⟨?_,λw=>(by go_simp),λg=>Dp g hk⟩;rw[hk];simp[Nf.np,Ym.gI]
theorem Ke (B){c:fw}(hk:c.k=10):iL B c 137 9:=by
 refine⟨?_,λw=>(by go_simp),λg=>Bu g hk⟩;rw[hk];simp[Nf.np,Ym.gI]
theorem KM (B){c:fw}(hk:c.k=11):iL B c 138 10:=by
 refine⟨?_,λw=>(by go_simp),λg=>Cr g hk⟩;rw[hk];simp[Nf.np,Ym.gI]
theorem JZ (B){c:fw}(hk:c.k=12):iL B c 139 11:=by
 refine⟨?_,λw=>(by go_simp),λg=>Bj g hk⟩;rw[hk];simp[Nf.np,Ym.gI]
theorem Kf (B){c:fw}(hk:c.k=13):iL B c 140 12:=by
 refine⟨?_,λw=>(by go_simp),λg=>Bk g hk⟩;rw[hk];simp[Nf.np,Ym.gI]
theorem KN (B){c:fw}(hk:c.k=14):iL B c 141 13:=by
 refine⟨?_,λw=>(by go_simp),λg=>A6 g hk⟩;rw[hk];simp[Nf.np,Ym.gI]
theorem GA (B){c:fw}(h:Ks.Ak.right c=true):∃ f j,iL B c f j:=by
 have b:=(Ks.Ak.cG.1 h).1;have a:c.k=1\/c.k=2\/c.k=3\/c.k=4\/c.k=5\/c.k=6\/c.k=7\/c.k=8\/c.k=9\/c.k=10\/c.k=11\/c.k=12\/c.k=13\/c.k=14:=qo
 rcases a with h | h | h | h | h | h | h | h | h | h | h | h | h | h
 ·exact⟨_,_,KT B h⟩
 ·exact⟨_,_,Lx B h⟩
 ·exact⟨_,_,Lg B h⟩
 ·exact⟨_,_,La B h⟩
 ·exact⟨_,_,KZ B h⟩
 ·exact⟨_,_,Lt B h⟩
 ·exact⟨_,_,Lb B h⟩
 ·exact⟨_,_,Lq B h⟩
 ·exact⟨_,_,Lc B h⟩
 ·exact⟨_,_,Ke B h⟩
 ·exact⟨_,_,KM B h⟩
 ·exact⟨_,_,JZ B h⟩
 ·exact⟨_,_,Kf B h⟩
 ·exact⟨_,_,KN B h⟩
def Gq (S:Nat->Prop) (w:World) (n2 n3 tb:Nat) (vs:Value) (d cl:Int) (c:fw) (R:Nf.sv) (T:List cL) (Q:List Os.dP) (ve u uo:Value) (L':List Rw) (Y:World) (A:Nat):Prop :=
 Y.1[A]?=some (Il R ve)/\Y.1[tb]?=some (gj u uo vs d cl c)/\Y.1[n2]?=some sI/\Y.1[n3]?=some fJ/\tb<A/\cD (λb=>(S b/\b<w.1.size)\/(tb<b/\b≠A)) Y u L'/\pl L'=T/\At Os.EO (λb=>(S b/\b<w.1.size)\/(tb<b/\b≠A)) Y uo Q/\At EE (λb=>(S b/\b<w.1.size)\/(tb<b/\b≠A)) Y ve R.cE/\Bw w Y
section
variable {S:Nat->Prop} {w V w7:World} {n2 n3 tb A:Nat} {vs:Value} {d cl:Int} {c:fw} {R:Nf.sv} {T:List cL} {Q:List Os.dP} {ve u uo:Value} {L':List Rw}
theorem Jc (h2:V.1[n2]?=some sI)(h3:V.1[n3]?=some fJ)(n2t:n2<tb)(n3t:n3<tb)(hwt:w.1.size<=tb)(htV:tb<V.1.size)(hb:Bw w V)(hB:w7.1[tb]?=some (gj u uo vs d cl c))(hT:cD (λb=>(S b/\b<w.1.size)\/V.1.size<=b) w7 u L')(hp:pl L'=T)(hO:At Os.EO (λb=>(S b/\b<w.1.size)\/V.1.size<=b) w7 uo Q)(hE:At EE (λb=>(S b/\b<w.1.size)\/V.heap.size<=b) w7 ve R.cE) (hg:V.grownBy w7 (some tb)) :
  Gq S w n2 n3 tb vs d cl c R T Q ve u uo L' (w7.alloc (Il R ve)) w7.heap.size:=by
 have a:Bw w7 (w7.alloc (Il R ve)):=qG _ _;have i:=hg.size;have f:∀ k,k<tb->w7.1[k]?=V.1[k]?:=λk j=>hg.block k qo qt
 refine⟨MD _ _,(a.block _ qo).trans hB,(a.block _ qo).trans ((f _ n2t).trans h2),(a.block _ qo).trans ((f _ n3t).trans h3),qo,(hT.imp (λb hb g=>?_)).up a,hp,(hO.imp (λb hb g=>?_)).up a,(hE.imp (λb hb g=>?_)).up a,(hb.grown hg (hb.size) (λk e=>by cases e;exact hwt)).trans (a.mono (by have:=hb.size;omega))⟩
 all_goals
  rcases hb with h | h
  ·exact .inl h
  ·exact .inr ⟨qo,qo⟩
theorem yD (h2:V.1[n2]?=some sI)(h3:V.1[n3]?=some fJ)(n2t:n2<tb)(n3t:n3<tb)(hwt:w.1.size<=tb)(htV:tb<V.1.size)(hb:Bw w V)(hA:V.1[A]?=some fJ)(htA:tb<A)(hB:w7.1[tb]?=some (gj u uo vs d cl c))(hT:cD (λb=>(S b/\b<w.1.size)\/V.1.size<=b) w7 u L')(hp:pl L'=T)(hO:At Os.EO (λb=>(S b/\b<w.1.size)\/V.1.size<=b) w7 uo Q)(hE:At EE (λb=>(S b/\b<w.1.size)\/V.1.size<=b) w7 ve R.cE)(hg:V.grownBy w7 (some tb)) :
  Gq S w n2 n3 tb vs d cl c R T Q ve u uo L' (w7.setCells A 0 (cR R ve)) A:=by
 have i:=(qL hA);have m:=hg.size;have f:∀ k,k<V.1.size->k≠tb->w7.1[k]?=V.1[k]?:=λk l h=>hg.block k l qt
 have a:∀ k,k≠A->(w7.setCells A 0 (cR R ve)).1[k]?=w7.1[k]?:=λk l=>dq _ _ _ l
 have j:∀ b,((S b/\b<w.1.size)\/V.1.size<=b)->(S b/\b<w.1.size)\/(tb<b/\b≠A):=λb hb=>by
  rcases hb with h | h
  ·exact .inl h
  ·exact .inr ⟨qo,qo⟩
 have g:¬ ((S A/\A<w.1.size)\/V.1.size<=A):=qo
 refine⟨dO (cR R ve) ((f A i qo).trans hA) rfl,(a _ qo).trans hB,(a _ qo).trans ((f _ qo qo).trans h2),(a _ qo).trans ((f _ qo qo).trans h3),htA,(df (S:=λb=>(S b/\b<w.1.size)\/V.1.size<=b) g _ _ _ hT).imp (λb hb _=>j b hb),hp,(dB (S:=λb=>(S b/\b<w.1.size)\/V.1.size<=b) g _ _ _ hO).imp (λb hb _=>j b hb),(dB (S:=λb=>(S b/\b<w.1.size)\/V.1.size<=b) g _ _ _ hE).imp (λb hb _=>j b hb),da qo _ _ _ (hb.grown hg (hb.size) (λk e=>by cases e;exact hwt))⟩
end
end Go.Proofs.YtiifhfmekbhlnaaGreat
namespace Go.Proofs.YtiifhfmekbhlnaaGreat
open ChangeShapes WideShapes ChangeAt RowKit Deep It
theorem qU {P:Program}{md:Region.Mode}{ops:Array Oper}{Q:Exit->Act->World->Prop}{n:Nat}{l:Array Bool}{a:Act}{w:World}(i){oi:Oper}(h:∀ K:Act->World->Prop,(∀ a w,wpAny P md ops Q n (l.setIfInBounds i true) a w->K a w)->if Region.wanted oi (yielded ops a.tmps)=true then Oper.wp P oi a w K Q else K (a.put oi.dst undef) w)(hr:Region.ready md ops l=[i]:=by kernel_rfl)(gi:ops[i]?=some oi:=by rfl):wpAny P md ops Q (n+1) l a w:=Nc (rs:=[i]) hr qs (M7 gi h M9)
theorem kP {fn:Func}{p q:Tmp}{ty tz:TypeId}(h:fn.results=#[.cell p ty,.cell q tz])(tmps)(P)(w) :
  (results fn tmps).run P w=((asAddr (tmps.getD p undef)).run P w).andThen λa w₁=>((loadVar ty a).run P w₁).andThen λv w₂=>((asAddr (tmps.getD q undef)).run P w₂).andThen λb w₃=>((loadVar tz b).run P w₃).andThen λu w₄=>.ok (.tuple #[v,u]) w₄:=by
 simp only[results,h];simp[Sem.run_bind,Result.andThen]
namespace Nf
noncomputable def kI (L:List cL) (O:List Os.dP) (dn cl:Int) (c:fw):sv:=if eP L O dn cl=0 then (if Ks.Ak.right c=true then rep L O (dn+1) cl c else bad 413) else bad (eP L O dn cl)
noncomputable def C3 (L:List cL) (O:List Os.dP) (dn cl:Int):Int:=if eP L O dn cl=0 then dn+1 else dn
noncomputable def EL (L:List cL) (O:List Os.dP) (dn cl:Int) (c:fw):List cL:=if eP L O dn cl=0 then (if Ks.Ak.right c=true then tab L O (dn+1) cl c else L) else L
noncomputable def Fi (L:List cL) (O:List Os.dP) (dn cl:Int) (c:fw):List Os.dP:=if eP L O dn cl=0 then (if Ks.Ak.right c=true then ops L O cl c else O) else O
theorem AS {L:List cL}{O:List Os.dP}{dn cl:Int}(h:eP L O dn cl=0):right L O dn=true/\dn≠1099511627776/\0<=cl/\cl<=1099511627776:=by
 unfold eP at h
 by_cases hr:right L O dn=true
 ·rw[MC hr]at h
  by_cases hd:dn=1099511627776
  ·rw[MC hd]at h;exact absurd h qd
  ·rw[ME hd]at h
   by_cases hc:0<=cl/\cl<=1099511627776
   ·exact⟨hr,hd,hc⟩
   ·rw[ME hc]at h;exact absurd h qd
 ·rw[ME hr]at h;exact absurd h qd
theorem pA {L:List cL}{O:List Os.dP}{dn:Int}(h:right L O dn=true):Sp.cZ L=true/\Os.Op.right 0 O=true/\iT L O=true/\eU L<=8192/\ko L dn=true:=by
 unfold right at h;simp only[Bool.and_eq_true,decide_eq_true_eq]at h;exact⟨h.1,h.2.1,h.2.2.1,h.2.2.2.1,h.2.2.2.2⟩
theorem Cs {L:List cL}{O:List Os.dP}{dn:Int}(h:right L O dn=true):0<=dn/\dn<=1099511627776:=by
 have:=(pA h).2.2.2.2;unfold ko at this;simp only[Bool.and_eq_true,decide_eq_true_eq]at this;exact this.1
theorem Aq {L:List cL}{O:List Os.dP}{dn:Int}(h:right L O dn=true):∀ x∈O,names L x.2.2.1 x.2.2.2=true:=by
 intro x c;have:=(pA h).2.2.1;unfold iT at this;rw[MR]at this;have a:=this.1;rw[Oc,OM]at a;have b:=a x c;simp only[Bool.not_eq_true',decide_eq_false_iff_not,Classical.not_not]at b;exact sF b
end Nf
theorem pY (w)(a b c d):((((w.alloc a).alloc b).alloc c).alloc d).1[w.1.size]?=some a/\((((w.alloc a).alloc b).alloc c).alloc d).1[w.1.size+1]?=some b/\((((w.alloc a).alloc b).alloc c).alloc d).1[w.1.size+2]?=some c/\((((w.alloc a).alloc b).alloc c).alloc d).1[w.1.size+3]?=some d/\Bw w ((((w.alloc a).alloc b).alloc c).alloc d)/\((((w.alloc a).alloc b).alloc c).alloc d).1.size=w.1.size+4:=by
 have i:(w.alloc a).1.size=w.1.size+1:=qs
 have h:((w.alloc a).alloc b).1.size=w.1.size+2:=qs
 have g:(((w.alloc a).alloc b).alloc c).1.size=w.1.size+3:=qs
 have n:((((w.alloc a).alloc b).alloc c).alloc d).1.size=w.1.size+4:=qs
 have o:=MD w a;have j:=MD (w.alloc a) b;have l:=MD ((w.alloc a).alloc b) c;have m:=MD (((w.alloc a).alloc b).alloc c) d;rw[i]at j;rw[h]at l;rw[g]at m;have f:∀ (v:World) (x:Obj) (k:Nat),k<v.1.size->(v.alloc x).1[k]?=v.1[k]?:=λv x k p=>ML _ _ _ p
 refine⟨?_,?_,?_,m,?_,n⟩
 ·rw[f _ _ _ (by rw[g];omega),f _ _ _ (by rw[h];omega),f _ _ _ (by rw[i];omega)];exact o
 ·rw[f _ _ _ (by rw[g];omega),f _ _ _ (by rw[h];omega)];exact j
 ·rw[f _ _ _ (by rw[g];omega)];exact l
 ·exact (((qG _ _).alloc (by rw[i];omega) _).alloc (by rw[h];omega) _).alloc (by rw[g];omega) _
section
variable {S P:Nat->Prop} {w w5:World} {n2 n3:Nat}
theorem Dg {v:Value}{L:List Rw}(xs ys)(h:cD P w5 v L)(hP:∀ b,P b->b≠n2/\b≠n3/\(S b\/w.1.size<=b)):cD (λb=>S b\/w.1.size<=b) ((w5.setCells n2 0 xs).setCells n3 0 ys) v L :=
 (df (S:=P) (λh=>(hP n3 h).2.1 rfl) ys 0 _ (df (S:=P) (λh=>(hP n2 h).1 rfl) xs 0 _ h)).imp (λb a _=>(hP b a).2.2)
theorem Hb {α:Type}{E:fY α}{v:Value}{l:List α}(xs ys)(h:At E P w5 v l)(hP:∀ b,P b->b≠n2/\b≠n3/\(S b\/w.1.size<=b)):At E (λb=>S b\/w.1.size<=b) ((w5.setCells n2 0 xs).setCells n3 0 ys) v l :=
 (dB (S:=P) (λh=>(hP n3 h).2.1 rfl) ys 0 _ (dB (S:=P) (λh=>(hP n2 h).1 rfl) xs 0 _ h)).imp (λb a _=>(hP b a).2.2)
theorem wD (xs ys)(h:Bw w w5)(h2:w.1.size<=n2)(h3:w.1.size<=n3):Bw w ((w5.setCells n2 0 xs).setCells n3 0 ys):=da h3 ys 0 _ (da h2 xs 0 _ h)
end
theorem Jf {S:Nat->Prop}(vi vo:Value)(sp:Option Addr)(sn sc:Nat)(dn cl:Int)(c:fw)(L:List Rw)(O:List Os.dP)(w:World)(hv:cD S w vi L)(ho:At Os.EO S w vo O)(eE:Sp.m6 L)(hs:c.nm.size<=maxLen)(xo:c.lV.size<=maxLen)(hd:c.data.size<=maxLen) :
  Calls Tryz.prog 56 #[iB vi vo (.slice sp sn sc) dn,.int .i64 cl,Ks.VC c] w λe w'=>∃ u uo ve L',e=.returned (.tuple #[iB u uo (.slice sp sn sc) (Nf.C3 (pl L) O dn cl),VR (Nf.kI (pl L) O dn cl c) ve])/\cD (λb=>S b\/w.1.size<=b) w' u L'/\pl L'=Nf.EL (pl L) O dn cl c/\At Os.EO (λb=>S b\/w.1.size<=b) w' uo (Nf.Fi (pl L) O dn cl c)/\At EE (λb=>S b\/w.1.size<=b) w' ve (Nf.kI (pl L) O dn cl c).cE/\Bw w w':=by
 obtain⟨ai,ci,hvi,-,-⟩:=hv.open;obtain⟨ni,hni⟩:=qE L.length;rw[hni]at hvi;subst hvi;obtain⟨ao,co,hvo,-,-⟩:=ho.open;obtain⟨no,jR⟩:=qE O.length;rw[jR]at hvo;subst hvo;obtain⟨W,hW⟩:=qF ((((w.alloc (gB (.slice ai ni ci) (.slice ao no co) (.slice sp sn sc) dn)).alloc (Ks.BC c)).alloc sI).alloc fJ);obtain⟨b0,b1,b2,b3,hB0,hWs⟩:=pY w (gB (.slice ai ni ci) (.slice ao no co) (.slice sp sn sc) dn) (Ks.BC c) sI fJ;rw[<-hW]at b0 b1 b2 b3 hB0 hWs;have HB0:Hid (Bw w W):=hB0;have H0:Hid (W.1[w.1.size]?=some (gB (.slice ai ni ci) (.slice ao no co) (.slice sp sn sc) dn)):=b0;have H1:Hid (W.1[w.1.size+1]?=some (Ks.BC c)):=b1;have H2:Hid (W.1[w.1.size+2]?=some sI):=b2;have H3:Hid (W.1[w.1.size+3]?=some fJ):=b3;have HV:Hid (cD (λb=>S b/\b<w.1.size) W (.slice ai ni ci) L):=(hv.imp (λ_ h hl=>⟨h,hl⟩)).up hB0;have HO:Hid (At Os.EO (λb=>S b/\b<w.1.size) W (.slice ao no co) O):=(ho.imp (λ_ h hl=>⟨h,hl⟩)).up hB0;have HOK:Hid (Sp.m6 L):=eE;have HS1:Hid (c.nm.size<=maxLen/\c.lV.size<=maxLen/\c.data.size<=maxLen):=⟨hs,xo,hd⟩;obtain⟨RE,hRE⟩:=qE (Nf.eP (pl L) O dn cl);obtain⟨DD,hDD⟩:=qE (Nf.C3 (pl L) O dn cl);obtain⟨DR,hDR⟩:=qE (Nf.kI (pl L) O dn cl c);obtain⟨DT,hDT⟩:=qE (Nf.EL (pl L) O dn cl c);obtain⟨DO,hDO⟩:=qE (Nf.Fi (pl L) O dn cl c);rw[hDD,hDR,hDT,hDO];unfold Nf.C3 at hDD;unfold Nf.kI at hDR;unfold Nf.EL at hDT;unfold Nf.Fi at hDO;rw[hRE]at hDD hDR hDT hDO;have HRE:Hid (Nf.eP (pl L) O dn cl=RE):=hRE;obtain⟨n0,h0⟩:=qE w.1.size;obtain⟨n1,h1⟩:=qE (w.1.size+1);obtain⟨n2,h2⟩:=qE (w.1.size+1+1);obtain⟨n3,h3⟩:=qE (w.1.size+1+1+1);rw[show w.1.size+3=n3 by omega]at H3;rw[show w.1.size+2=n2 by omega]at H2;rw[show w.1.size+1=n1 by omega]at H1;rw[h0]at H0;have HE0:Hid (w.1.size=n0):=h0;have HE1:Hid (w.1.size+1=n1):=h1;have HE2:Hid (w.1.size+1+1=n2):=h2;have HE3:Hid (w.1.size+1+1+1=n3):=h3
 have HN:Hid (w.1.size=n0/\n1=n0+1/\n2=n0+2/\n3=n0+3/\W.1.size=n0+4):=⟨h0,by omega,by omega,by omega,by omega⟩;have h01:n0<n1:=by omega
 have h12:n1<n2:=by omega
 have h23:n2<n3:=by omega
 have h3W:n3<W.1.size:=by omega
 have hSn:∀ b,(S b/\b<w.1.size)->b<n0:=λb h=>by omega
 clear hni jR hv ho b0 b1 b2 b3 hB0 eE hs xo hd hRE h0 h1 h2 h3 hWs
 by_cases hz:RE=0
 ·rw[MC hz]at hDD hDR hDT hDO;subst hz;obtain⟨hRt,hdn,hcl⟩:=Nf.AS HRE.out;have hdb:=Nf.Cs hRt;have hdn1:dn+1<=1099511627776:=by omega
  have hdn0:0<=dn:=hdb.1;have HRT:Hid (Nf.right (pl L) O dn=true):=hRt;have HD1:Hid (dn+1=DD):=hDD;have HDR:Hid ((if Ks.Ak.right c=true then Nf.rep (pl L) O (dn+1) cl c else Nf.bad 413)=DR):=hDR;have HDT:Hid ((if Ks.Ak.right c=true then Nf.tab (pl L) O (dn+1) cl c else pl L)=DT):=hDT;have HDO:Hid ((if Ks.Ak.right c=true then Nf.ops (pl L) O cl c else O)=DO):=hDO;clear hDD hDR hDT hDO hRt hdn hcl hdb;go_enter Tryz.func56,Tryz.ntmps56;go_wp2_with fail;rw[<-hW,HE3.out,HE2.out,HE1.out,HE0.out];clear hW;refine (sE (.slice ai ni ci) (.slice ao no co) sp sn sc dn cl L O W HV.out HOK.out HO.out.wide).mono ?_;rintro e w1 ⟨rfl,hb1⟩;rw[HRE.out];have HV1:Hid (cD (λb=>S b/\b<w.1.size) w1 (.slice ai ni ci) L):=HV.out.up hb1;have HO1:Hid (At Os.EO (λb=>S b/\b<w.1.size) w1 (.slice ao no co) O):=HO.out.up hb1;have H01:=hH<|(hb1.block _ qo).trans H0;have H11:=hH<|(hb1.block _ qo).trans H1;have H21:=hH<|(hb1.block _ qo).trans H2;have H31:=hH<|(hb1.block _ qo).trans H3;have HB1:=hH<|HB0.out.trans (hb1.mono HB0.size);clear hb1 HB0 H0 H1 H2 H3 HV HO;obtain⟨t0,t1,t2,t3⟩:=dg H01.out;have tf:=dw H01.out;obtain⟨c0,c1,c2,c3,c4,c5,c6,c7,c8,c9⟩:=Ks.dK H11.out;go_wp2_with fail;obtain⟨w2,hw2⟩:=qF (w1.setCell ⟨n0,3,none⟩ (.int .i64 (dn+1)));rw[<-hw2];have H02:Hid (w2.1[n0]?=some (gB (.slice ai ni ci) (.slice ao no co) (.slice sp sn sc) (dn+1))):=by
   show w2.1[n0]?=_;rw[hw2];have h4:=ij H01.out 3 (.int .i64 (dn+1));simpa using h4
  have H12:Hid (w2.1[n1]?=some (Ks.BC c)):=by show _=_;rw[hw2];exact (MM _ _ _ _ (show n1≠n0 by omega)).trans H11.out
  have H22:Hid (w2.1[n2]?=some sI):=by show _=_;rw[hw2];exact (MM _ _ _ _ (show n2≠n0 by omega)).trans H21.out
  have H32:Hid (w2.1[n3]?=some fJ):=by show _=_;rw[hw2];exact (MM _ _ _ _ (show n3≠n0 by omega)).trans H31.out
  have HB2:Hid (Bw w w2):=by show Below _ _ _;rw[hw2];exact MP HB1.out (by have h:=HN.out;show w.1.size<=n0;omega) _
  have HV2:Hid (cD (λb=>S b/\b<w.1.size) w2 (.slice ai ni ci) L):=by
   show cD _ _ _ _;rw[hw2];exact df (A:=n0) (S:=λb=>S b/\b<w.1.size) (λh=>by have h':=HN.out;omega) [.int .i64 (dn+1)] 3 _ HV1.out
  have HO2:Hid (At Os.EO (λb=>S b/\b<w.1.size) w2 (.slice ao no co) O):=by
   show At _ _ _ _ _;rw[hw2];exact dB (A:=n0) (S:=λb=>S b/\b<w.1.size) (λh=>by have h':=HN.out;omega) [.int .i64 (dn+1)] 3 _ HO1.out
  clear hw2 H01 H11 H21 H31 HB1 HV1 HO1 t0 t1 t2 t3 tf c0 c1 c2 c3 c4 c5 c6 c7 c8 c9;have h2a:=(qL H02.out);have h2b:=(qL H12.out);have h2c:=(qL H22.out);have h2d:=(qL H32.out);obtain⟨ce,hce⟩:∃ ce:Int,(if Ks.Ak.right c=true then (0:Int) else 413)=ce:=⟨_,rfl⟩;refine (Ks.mq c w2 ce hce).mono ?_;rintro e w3 ⟨rfl,hb3⟩;have H03:=qK hb3 H02;have H13:=qK hb3 H12;have H23:=qK hb3 H22;have H33:=qK hb3 H32;have HB3:=hH<|HB2.out.trans (hb3.mono HB2.size);have HVX:Hid (cD (λb=>S b/\b<w.1.size) w3 (.slice ai ni ci) L):=HV2.out.up hb3;have HOX:Hid (At Os.EO (λb=>S b/\b<w.1.size) w3 (.slice ao no co) O):=HO2.out.up hb3;clear hb3 H02 H12 H22 H32 HB2 HV2 HO2 h2a h2b h2c h2d
  by_cases hr:Ks.Ak.right c=true
  ·rw[MC hr]at hce;subst hce;have HRC:Hid (Ks.Ak.right c=true):=hr;have HR1:Hid (Nf.rep (pl L) O (dn+1) cl c=DR):=by have h:=HDR.out;rw[MC hr]at h;exact h
   have HT1:Hid (Nf.tab (pl L) O (dn+1) cl c=DT):=by have h:=HDT.out;rw[MC hr]at h;exact h
   have HQ1:Hid (Nf.ops (pl L) O cl c=DO):=by have h:=HDO.out;rw[MC hr]at h;exact h
   obtain⟨t0,t1,t2,t3⟩:=dg H03.out;obtain⟨c0,c1,c2,c3,c4,c5,c6,c7,c8,c9⟩:=Ks.dK H13.out;clear hr HDR HDT HDO;go_wp2_with fail;obtain⟨tb,htb⟩:=qE w3.1.size;obtain⟨Z,hZ⟩:=qF (w3.alloc (gj (.slice ai ni ci) (.slice ao no co) (.slice sp sn sc) (dn+1) cl c));have bz:Bw w3 Z:=by rw[hZ];exact qG _ _
   have HTZ:Hid (Z.1[tb]?=some (gj (.slice ai ni ci) (.slice ao no co) (.slice sp sn sc) (dn+1) cl c)):=by show Z.1[tb]?=_;rw[hZ,<-htb];exact MD _ _
   have n1t:n1<tb:=by rw[<-htb];exact (qL H13.out)
   have n2t:n2<tb:=by rw[<-htb];exact (qL H23.out)
   have n3t:n3<tb:=by rw[<-htb];exact (qL H33.out)
   have HWT:Hid (w.1.size<=tb):=by show _<=_;rw[<-htb];exact HB3.out.size
   have H1Z:=hH<|(bz.block _ qo).trans H13;have H2Z:=hH<|(bz.block _ qo).trans H23;have H3Z:Hid (Z.1[n3]?=some fJ):=(bz.block _ (by omega)).trans H33.out;have HBZ:Hid (Bw w Z):=HB3.out.trans (bz.mono HB3.out.size);have HVZ:Hid (cD (λb=>S b/\b<w.1.size) Z (.slice ai ni ci) L):=HVX.out.up bz;have HOZ:Hid (At Os.EO (λb=>S b/\b<w.1.size) Z (.slice ao no co) O):=HOX.out.up bz;have htZ:tb<Z.1.size:=(qL HTZ.out);have HZT:Hid (Z.1.size=tb+1):=by show _=_;rw[hZ,<-htb];simp
   obtain⟨f,j,hkf⟩:=GA tb HRC.out;have HKF:Hid (iL tb c f j):=hkf;have HCF:Hid (∀ w,(callFunc f #[.pointer (some ⟨tb,0,none⟩)]).run Tryz.prog w=.ok (.enter f #[.pointer (some ⟨tb,0,none⟩)]) w):=hkf.2.1;have HDY:Hid (∀ V,Bw Z V->Calls Tryz.prog f #[.pointer (some ⟨tb,0,none⟩)] V λe w'=>∃ ep en ec up un uc op on oc L',e=.returned (VR DR (.slice ep en ec))/\w'.1[tb]?=some (gj (.slice up un uc) (.slice op on oc) (.slice sp sn sc) (dn+1) cl c)/\cD (λb=>(S b/\b<w.1.size)\/V.1.size<=b) w' (.slice up un uc) L'/\pl L'=DT/\At Os.EO (λb=>(S b/\b<w.1.size)\/V.1.size<=b) w' (.slice op on oc) DO/\At EE (λb=>(S b/\b<w.1.size)\/V.1.size<=b) w' (.slice ep en ec) DR.cE/\V.grownBy w' (some tb)):=λV h=>by
    have hwt:=HWT.out;refine (HKF.out.2.2 (S:=λb=>S b/\b<w.1.size) (L:=L) (O:=O) (dn:=dn+1) (cl:=cl) ⟨(h.block _ htZ).trans HTZ.out,HVZ.out.up h,λhb=>by omega,HOZ.out.up h,HOK.out,HS1.out.1,HS1.out.2.1,HS1.out.2.2,Nf.Aq HRT.out⟩).mono ?_;rintro e w' ⟨u,uo,ve,L',h1,h2,h3,h4,h5,h6,h7⟩;rw[HR1.out]at h1 h6;rw[HT1.out]at h4;rw[HQ1.out]at h5;obtain⟨up,uc,hu,-,-⟩:=h3.open;obtain⟨op,oc,hu2,-,-⟩:=h5.open;obtain⟨ep,ec,hu3,-,-⟩:=h6.open;subst hu hu2 hu3;exact⟨_,_,_,_,_,_,_,_,_,L',h1,h2,h3,h4,h5,h6,h7⟩
   rw[<-hZ,htb];clear hZ htb bz hkf H03 H13 H23 H33 HB3 HVX HOX HR1 HT1 HQ1 t0 t1 t2 t3 c0 c1 c2 c3 c4 c5 c6 c7 c8 c9 HVZ HOZ HRT HRC HS1 HOK;apply lM
   ·intro hK0;refine NX (by kernel_rfl) ?_;change wpAny _ _ _ _ _ _ _ (World.drew _);refine qV (i:=0) rfl ?_
    try simp only[qS]
    refine qV (i:=2) rfl ?_
    try simp only[qS]
    have HS:(λV:World=>V.1[n1]?=some (Ks.BC c)) Z.drew:=H1Z.out;refine Fst.iu (late:=λk=>[4,5,7].contains k) (S:=λV:World=>V.1[n1]?=some (Ks.BC c)) _ _ _ _ ?_;refine Fst.tk (ls:=[4,5,7]) (i:=3) (v:=?v7) rfl (Or.inl ⟨by rfl,?h7⟩) HS ?r7
    case h7=>(intro V s;obtain⟨s0,s1,s2,s3,s4,s5,s6,s7,s8,s9⟩:=Ks.dK s;go_simp;try with_reducible rfl)
    try simp only[qS]
    clear HS;refine Fst.both (late:=λk=>[4,5,7].contains k) (i:=1) (j:=6) (by kernel_rfl) rfl rfl (λK hK=>?_) (λK hK=>?_)
    ·go_simp
     refine (wM tb _).mono ?_;rintro e w5 ⟨r,rfl,hr5,hm5,hb5⟩;have hb55:Bw Z w5:=dH hb5;have HM5:Hid (Ym.IM w5 r (Nf.np tb)):=hm5;have H15:Hid (w5.1[n1]?=some (Ks.BC c)):=(hb55.block _ (by omega)).trans H1Z.out;have HB5:Hid (Bw Z w5):=hb55;clear hr5 hm5 hb5 hb55
     (try go_wp2_with fail)
     first | (refine hK _ _ (H15.out) ?_;clear hK K) | skip
     try simp only[qS]
     refine Fst.two (ls:=[4,5,7]) (i:=4) (j:=6) (by kernel_rfl) rfl rfl (by kernel_rfl) (λK hK=>?_) (λK hK=>?_)
     ·have hl:(Instr.lookup 145 (.map (some r)) (.int .i64 c.k) false).run Tryz.prog w5=.ok (wT f tb) w5:=by
       have h:=Ym.yJ Tryz.underlying145 HM5.out HKF.out.1 false;simpa using h
      go_simp
      clear hl
      first | (refine hK _ _ ?_;clear hK K) | skip
      try simp only[qS]
      refine Nc (rs:=[5,6]) (by kernel_rfl) (by simp) ?_;refine M7 rfl (λK hK=>?_) (M7 rfl (λK hK=>?_) M9)
      ·rw[MC (by kernel_rfl)];refine xF rfl rfl HCF.out (HDY.out w5 (HB5.out)) ?_;rintro e w7 ⟨ep,en,ec,up,un,uc,op,on,oc,L',rfl,q1,q2,q3,q4,q5,q6⟩;refine⟨_,rfl,?_⟩;have HQ7:Hid (w7.1[tb]?=some (gj (.slice up un uc) (.slice op on oc) (.slice sp sn sc) (dn+1) cl c)/\cD (λb=>(S b/\b<w.1.size)\/w5.1.size<=b) w7 (.slice up un uc) L'/\pl L'=DT/\At Os.EO (λb=>(S b/\b<w.1.size)\/w5.1.size<=b) w7 (.slice op on oc) DO/\At EE (λb=>(S b/\b<w.1.size)\/w5.1.size<=b) w7 (.slice ep en ec) DR.cE/\w5.grownBy w7 (some tb)):=⟨q1,q2,q3,q4,q5,q6⟩;clear q1 q2 q3 q4 q5 q6
       first | (refine hK _ _ ?_;clear hK K) | skip
       try simp only[qS]
       refine qU 6 λK hK=>?_
       go_simp
       (try go_wp2_with fail)
       first | (refine hK _ _ ?_;clear hK K) | skip
       try simp only[qS]
       refine qU 7 λK hK=>?_
       go_simp
       (try go_wp2_with fail)
       first | (refine hK _ _ ?_;clear hK K) | skip
       try simp only[qS]
       refine N1 (by kernel_rfl) ?_ _;have hq:=HQ7.out;have hbw:Bw w w5:=HBZ.out.trans ((HB5.out).mono HBZ.out.size);have hsz:=(HB5.out).size;have hR0:Gq S w n2 n3 tb (.slice sp sn sc) (dn+1) cl c DR DT DO (.slice ep en ec) (.slice up un uc) (.slice op on oc) L' (w7.alloc (Il DR (.slice ep en ec))) w7.1.size:=Jc (((HB5.out).block _ (by omega)).trans H2Z.out) (((HB5.out).block _ (by omega)).trans H3Z.out) n2t n3t HWT.out (by omega) hbw hq.1 hq.2.1 hq.2.2.1 hq.2.2.2.1 hq.2.2.2.2.1 hq.2.2.2.2.2;obtain⟨Y,hY⟩:=qF (w7.alloc (Il DR (.slice ep en ec)));obtain⟨A,hA⟩:=qF w7.1.size;rw[<-hY,<-hA]at hR0;rw[<-hY,<-hA];have HR:Hid (Gq S w n2 n3 tb (.slice sp sn sc) (dn+1) cl c DR DT DO (.slice ep en ec) (.slice up un uc) (.slice op on oc) L' Y A):=hR0;clear hY hA hR0 hq hbw hsz HQ7 HM5 H15 HB5;revert HR;revert A Y L' oc on op uc un up ec en ep r;exact hK0.out
      ·go_simp
       have hb6:Bw Z (w5.alloc fJ):=HB5.out.alloc HB5.out.size _;have HB6:Hid (Bw Z (w5.alloc fJ)):=hb6;have HA6:Hid ((w5.alloc fJ).1[w5.1.size]?=some fJ):=MD _ _;have h5s:tb<w5.1.size:=by have h:=HB5.out.size;omega
       clear hb6
       (try go_wp2_with fail)
       first | (refine hK _ _ ?_;clear hK K) | skip
       try simp only[qS]
       refine qU 5 λK hK=>?_;rw[MC (by kernel_rfl)];refine xF rfl rfl HCF.out (HDY.out (w5.alloc fJ) (HB6.out)) ?_;rintro e w7 ⟨ep,en,ec,up,un,uc,op,on,oc,L',rfl,q1,q2,q3,q4,q5,q6⟩;refine⟨_,rfl,?_⟩;have HQ7:Hid (w7.1[tb]?=some (gj (.slice up un uc) (.slice op on oc) (.slice sp sn sc) (dn+1) cl c)/\cD (λb=>(S b/\b<w.1.size)\/(w5.alloc fJ).1.size<=b) w7 (.slice up un uc) L'/\pl L'=DT/\At Os.EO (λb=>(S b/\b<w.1.size)\/(w5.alloc fJ).1.size<=b) w7 (.slice op on oc) DO/\At EE (λb=>(S b/\b<w.1.size)\/(w5.alloc fJ).1.size<=b) w7 (.slice ep en ec) DR.cE/\(w5.alloc fJ).grownBy w7 (some tb)):=⟨q1,q2,q3,q4,q5,q6⟩;clear q1 q2 q3 q4 q5 q6;have hq:=HQ7.out;have hsz:=(HB6.out).size;have HA7:Hid (w7.1[w5.1.size]?=some fJ):=(hq.2.2.2.2.2.block _ (qL HA6.out) (by simp;omega)).trans HA6.out;obtain⟨g0,g1,g2,g3,g4,g5,g6,g7,g8,g9⟩:=ev HA7.out;have gg:=dw HA7.out;clear hq
       first | (refine hK _ _ ?_;clear hK K) | skip
       try simp only[qS]
       refine qU 7 λK hK=>?_
       go_simp
       (try go_wp2_with fail)
       first | (refine hK _ _ ?_;clear hK K) | skip
       try simp only[qS]
       refine N1 (by kernel_rfl) ?_ _;have hq:=HQ7.out;have hbw:Bw w (w5.alloc fJ):=HBZ.out.trans ((HB6.out).mono HBZ.out.size);have hR0:Gq S w n2 n3 tb (.slice sp sn sc) (dn+1) cl c DR DT DO (.slice ep en ec) (.slice up un uc) (.slice op on oc) L' (w7.setCells (w5.1.size) 0 (cR DR (.slice ep en ec))) (w5.1.size):=yD (((HB6.out).block _ (by omega)).trans H2Z.out) (((HB6.out).block _ (by omega)).trans H3Z.out) n2t n3t HWT.out (by omega) hbw HA6.out (h5s) hq.1 hq.2.1 hq.2.2.1 hq.2.2.2.1 hq.2.2.2.2.1 hq.2.2.2.2.2;obtain⟨Y,hY⟩:=qF ((((((((((w7.setCell ⟨w5.1.size,0,none⟩ (.int .i64 DR.e)).setCell ⟨w5.1.size,1,none⟩ (.int .i64 DR.no)).setCell ⟨w5.1.size,2,none⟩ (.int .i64 DR.gen)).setCell ⟨w5.1.size,3,none⟩ (.int .i64 DR.kind)).setCell ⟨w5.1.size,4,none⟩ (.int .i64 DR.cH)).setCell ⟨w5.1.size,5,none⟩ (.int .i64 DR.size)).setCell ⟨w5.1.size,6,none⟩ (.int .i64 DR.cF)).setCell ⟨w5.1.size,7,none⟩ (.string DR.data)).setCell ⟨w5.1.size,8,none⟩ (.slice ep en ec)).setCell ⟨w5.1.size,9,none⟩ (.int .i64 DR.n));have hY2:Y=w7.setCells (w5.1.size) 0 (cR DR (.slice ep en ec)):=hY;rw[<-hY];rw[<-hY2]at hR0;obtain⟨A,hA⟩:=qF w5.1.size;rw[<-hA]at hR0;rw[<-hA];have HR:Hid (Gq S w n2 n3 tb (.slice sp sn sc) (dn+1) cl c DR DT DO (.slice ep en ec) (.slice up un uc) (.slice op on oc) L' Y A):=hR0;clear hY hY2 hA hR0 hq hbw hsz HQ7 HA7 g0 g1 g2 g3 g4 g5 g6 g7 g8 g9 gg HM5 H15 HB5 HB6 HA6 h5s;revert HR;revert A Y L' oc on op uc un up ec en ep r;exact hK0.out
     ·go_simp
      have hb6:Bw Z (w5.alloc fJ):=HB5.out.alloc HB5.out.size _;have HB6:Hid (Bw Z (w5.alloc fJ)):=hb6;have HA6:Hid ((w5.alloc fJ).1[w5.1.size]?=some fJ):=MD _ _;have h5s:tb<w5.1.size:=by have h:=HB5.out.size;omega
      clear hb6;refine hK _ _ ((qG _ _:Bw w5 (w5.alloc fJ)).block _ (qL H15.out) |>.trans H15.out) ?_;clear hK K
      try simp only[qS]
      refine Fst.rest (by kernel_rfl) ?_;refine qU 4 λK hK=>?_;have hl:(Instr.lookup 145 (.map (some r)) (.int .i64 c.k) false).run Tryz.prog (w5.alloc fJ)=.ok (wT f tb) (w5.alloc fJ):=by
       have h:=Ym.yJ Tryz.underlying145 (HM5.out.kept ((MJ _ _:Bw w5 w5).alloc (MI _) fJ |>.block _ HM5.out.lt)) HKF.out.1 false;simpa using h
      go_simp
      clear hl
      first | (refine hK _ _ ?_;clear hK K) | skip
      try simp only[qS]
      refine qU 5 λK hK=>?_;rw[MC (by kernel_rfl)];refine xF rfl rfl HCF.out (HDY.out (w5.alloc fJ) (HB6.out)) ?_;rintro e w7 ⟨ep,en,ec,up,un,uc,op,on,oc,L',rfl,q1,q2,q3,q4,q5,q6⟩;refine⟨_,rfl,?_⟩;have HQ7:Hid (w7.1[tb]?=some (gj (.slice up un uc) (.slice op on oc) (.slice sp sn sc) (dn+1) cl c)/\cD (λb=>(S b/\b<w.1.size)\/(w5.alloc fJ).1.size<=b) w7 (.slice up un uc) L'/\pl L'=DT/\At Os.EO (λb=>(S b/\b<w.1.size)\/(w5.alloc fJ).1.size<=b) w7 (.slice op on oc) DO/\At EE (λb=>(S b/\b<w.1.size)\/(w5.alloc fJ).1.size<=b) w7 (.slice ep en ec) DR.cE/\(w5.alloc fJ).grownBy w7 (some tb)):=⟨q1,q2,q3,q4,q5,q6⟩;clear q1 q2 q3 q4 q5 q6;have hq:=HQ7.out;have hsz:=(HB6.out).size;have HA7:Hid (w7.1[w5.1.size]?=some fJ):=(hq.2.2.2.2.2.block _ (qL HA6.out) (by simp;omega)).trans HA6.out;obtain⟨g0,g1,g2,g3,g4,g5,g6,g7,g8,g9⟩:=ev HA7.out;have gg:=dw HA7.out;clear hq
      first | (refine hK _ _ ?_;clear hK K) | skip
      try simp only[qS]
      refine qU 7 λK hK=>?_
      go_simp
      (try go_wp2_with fail)
      first | (refine hK _ _ ?_;clear hK K) | skip
      try simp only[qS]
      refine N1 (by kernel_rfl) ?_ _;have hq:=HQ7.out;have hbw:Bw w (w5.alloc fJ):=HBZ.out.trans ((HB6.out).mono HBZ.out.size);have hR0:Gq S w n2 n3 tb (.slice sp sn sc) (dn+1) cl c DR DT DO (.slice ep en ec) (.slice up un uc) (.slice op on oc) L' (w7.setCells (w5.1.size) 0 (cR DR (.slice ep en ec))) (w5.1.size):=yD (((HB6.out).block _ (by omega)).trans H2Z.out) (((HB6.out).block _ (by omega)).trans H3Z.out) n2t n3t HWT.out (by omega) hbw HA6.out (h5s) hq.1 hq.2.1 hq.2.2.1 hq.2.2.2.1 hq.2.2.2.2.1 hq.2.2.2.2.2;obtain⟨Y,hY⟩:=qF ((((((((((w7.setCell ⟨w5.1.size,0,none⟩ (.int .i64 DR.e)).setCell ⟨w5.1.size,1,none⟩ (.int .i64 DR.no)).setCell ⟨w5.1.size,2,none⟩ (.int .i64 DR.gen)).setCell ⟨w5.1.size,3,none⟩ (.int .i64 DR.kind)).setCell ⟨w5.1.size,4,none⟩ (.int .i64 DR.cH)).setCell ⟨w5.1.size,5,none⟩ (.int .i64 DR.size)).setCell ⟨w5.1.size,6,none⟩ (.int .i64 DR.cF)).setCell ⟨w5.1.size,7,none⟩ (.string DR.data)).setCell ⟨w5.1.size,8,none⟩ (.slice ep en ec)).setCell ⟨w5.1.size,9,none⟩ (.int .i64 DR.n));have hY2:Y=w7.setCells (w5.1.size) 0 (cR DR (.slice ep en ec)):=hY;rw[<-hY];rw[<-hY2]at hR0;obtain⟨A,hA⟩:=qF w5.1.size;rw[<-hA]at hR0;rw[<-hA];have HR:Hid (Gq S w n2 n3 tb (.slice sp sn sc) (dn+1) cl c DR DT DO (.slice ep en ec) (.slice up un uc) (.slice op on oc) L' Y A):=hR0;clear hY hY2 hA hR0 hq hbw hsz HQ7 HA7 g0 g1 g2 g3 g4 g5 g6 g7 g8 g9 gg HM5 H15 HB5 HB6 HA6 h5s;revert HR;revert A Y L' oc on op uc un up ec en ep r;exact hK0.out
    ·go_simp
     have hb6:Bw Z (Z.drew.alloc fJ):=(cX (MJ _ _)).alloc (MI _) _;refine hK _ _ ((hb6.block _ (by omega)).trans H1Z.out) ?_;clear hK K
     try simp only[qS]
     refine Fst.one (late:=λk=>[4,5,7].contains k) (i:=1) (by kernel_rfl) rfl (λK hK=>?_)
     go_simp
     refine (wM tb _).mono ?_;rintro e w5 ⟨r,rfl,hr5,hm5,hb5⟩;have hb55:Bw Z w5:=hb6.trans (hb5.mono hb6.size);have HM5:Hid (Ym.IM w5 r (Nf.np tb)):=hm5;have H15:=hH<|(hb55.block _ qo).trans H1Z;have HB5:Hid (Bw Z w5):=hb55;have HA6:Hid (w5.1[Z.1.size]?=some fJ):=(hb5.block _ (by simp)).trans (MD Z.drew _);clear hr5 hm5 hb5 hb55 hb6
     (try go_wp2_with fail)
     first | (refine hK _ _ (H15.out) ?_;clear hK K) | skip
     try simp only[qS]
     refine Fst.rest (by kernel_rfl) ?_;refine qU 4 λK hK=>?_;have hl:(Instr.lookup 145 (.map (some r)) (.int .i64 c.k) false).run Tryz.prog w5=.ok (wT f tb) w5:=by
      have h:=Ym.yJ Tryz.underlying145 HM5.out HKF.out.1 false;simpa using h
     go_simp
     clear hl
     first | (refine hK _ _ ?_;clear hK K) | skip
     try simp only[qS]
     refine qU 5 λK hK=>?_;rw[MC (by kernel_rfl)];refine xF rfl rfl HCF.out (HDY.out w5 (HB5.out)) ?_;rintro e w7 ⟨ep,en,ec,up,un,uc,op,on,oc,L',rfl,q1,q2,q3,q4,q5,q6⟩;refine⟨_,rfl,?_⟩;have HQ7:Hid (w7.1[tb]?=some (gj (.slice up un uc) (.slice op on oc) (.slice sp sn sc) (dn+1) cl c)/\cD (λb=>(S b/\b<w.1.size)\/w5.1.size<=b) w7 (.slice up un uc) L'/\pl L'=DT/\At Os.EO (λb=>(S b/\b<w.1.size)\/w5.1.size<=b) w7 (.slice op on oc) DO/\At EE (λb=>(S b/\b<w.1.size)\/w5.1.size<=b) w7 (.slice ep en ec) DR.cE/\w5.grownBy w7 (some tb)):=⟨q1,q2,q3,q4,q5,q6⟩;clear q1 q2 q3 q4 q5 q6;have hq:=HQ7.out;have hsz:=(HB5.out).size;have HA7:Hid (w7.1[Z.1.size]?=some fJ):=(hq.2.2.2.2.2.block _ (qL HA6.out) (by simp;omega)).trans HA6.out;obtain⟨g0,g1,g2,g3,g4,g5,g6,g7,g8,g9⟩:=ev HA7.out;have gg:=dw HA7.out;clear hq
     first | (refine hK _ _ ?_;clear hK K) | skip
     try simp only[qS]
     refine qU 7 λK hK=>?_
     go_simp
     (try go_wp2_with fail)
     first | (refine hK _ _ ?_;clear hK K) | skip
     try simp only[qS]
     refine N1 (by kernel_rfl) ?_ _;have hq:=HQ7.out;have hbw:Bw w w5:=HBZ.out.trans ((HB5.out).mono HBZ.out.size);have hR0:Gq S w n2 n3 tb (.slice sp sn sc) (dn+1) cl c DR DT DO (.slice ep en ec) (.slice up un uc) (.slice op on oc) L' (w7.setCells (Z.1.size) 0 (cR DR (.slice ep en ec))) (Z.1.size):=yD (((HB5.out).block _ (by omega)).trans H2Z.out) (((HB5.out).block _ (by omega)).trans H3Z.out) n2t n3t HWT.out (by omega) hbw HA6.out (htZ) hq.1 hq.2.1 hq.2.2.1 hq.2.2.2.1 hq.2.2.2.2.1 hq.2.2.2.2.2;obtain⟨Y,hY⟩:=qF ((((((((((w7.setCell ⟨Z.1.size,0,none⟩ (.int .i64 DR.e)).setCell ⟨Z.1.size,1,none⟩ (.int .i64 DR.no)).setCell ⟨Z.1.size,2,none⟩ (.int .i64 DR.gen)).setCell ⟨Z.1.size,3,none⟩ (.int .i64 DR.kind)).setCell ⟨Z.1.size,4,none⟩ (.int .i64 DR.cH)).setCell ⟨Z.1.size,5,none⟩ (.int .i64 DR.size)).setCell ⟨Z.1.size,6,none⟩ (.int .i64 DR.cF)).setCell ⟨Z.1.size,7,none⟩ (.string DR.data)).setCell ⟨Z.1.size,8,none⟩ (.slice ep en ec)).setCell ⟨Z.1.size,9,none⟩ (.int .i64 DR.n));have hY2:Y=w7.setCells (Z.1.size) 0 (cR DR (.slice ep en ec)):=hY;rw[<-hY];rw[<-hY2]at hR0;obtain⟨A,hA⟩:=qF Z.1.size;rw[<-hA]at hR0;rw[<-hA];have HR:Hid (Gq S w n2 n3 tb (.slice sp sn sc) (dn+1) cl c DR DT DO (.slice ep en ec) (.slice up un uc) (.slice op on oc) L' Y A):=hR0;clear hY hY2 hA hR0 hq hbw hsz HQ7 HA7 g0 g1 g2 g3 g4 g5 g6 g7 g8 g9 gg HM5 H15 HB5 HA6;revert HR;revert A Y L' oc on op uc un up ec en ep r;exact hK0.out
   intro r ep en ec up un uc op on oc L' Y A HR;have hD:=HD1.out;subst hD;have hAf:=HR.out;unfold Gq at hAf;obtain⟨rA,rB,r2,r3,htA,rT,rp,rO,rE,rb⟩:=hAf;have HRA:Hid (Y.1[A]?=some (Il DR (.slice ep en ec))):=rA;have HRB:Hid (Y.1[tb]?=some (gj (.slice up un uc) (.slice op on oc) (.slice sp sn sc) (dn+1) cl c)):=rB;have HR3:Hid (Y.1[n3]?=some fJ):=r3;have HR2:Hid (Y.1[n2]?=some sI):=r2;have HWT2:=HWT.out;have HTT:Hid (cD (λb=>(S b/\b<w.1.size)\/(tb<b/\b≠A)) Y (.slice up un uc) L'):=rT;have HPP:Hid (pl L'=DT):=rp;have HOO:Hid (At Os.EO (λb=>(S b/\b<w.1.size)\/(tb<b/\b≠A)) Y (.slice op on oc) DO):=rO;have HEE:Hid (At EE (λb=>(S b/\b<w.1.size)\/(tb<b/\b≠A)) Y (.slice ep en ec) DR.cE):=rE;have HBB:Hid (Bw w Y):=rb;obtain⟨f0,f1,f2,f3⟩:=dg r2;have ff:=dw r2;clear HR rA rB r2 r3 rT rp rO rE rb HDY HCF HKF HTZ H1Z H2Z H3Z HBZ HZT;go_wp2_with fail;refine NX (by kernel_rfl) ?_;change wpAny _ _ _ _ _ _ _ (World.drew _);refine qV (i:=0) rfl ?_
   try simp only[qS]
   refine qV (i:=1) rfl ?_
   try simp only[qS]
   refine qV (i:=2) rfl ?_
   try simp only[qS]
   have HS:(λV:World=>V.1[tb]?=some (gj (.slice up un uc) (.slice op on oc) (.slice sp sn sc) (dn+1) cl c)/\V.1[A]?=some (Il DR (.slice ep en ec))) Y.drew:=⟨HRB.out,HRA.out⟩;refine Fst.iu (late:=λk=>[6].contains k) (S:=λV:World=>V.1[tb]?=some (gj (.slice up un uc) (.slice op on oc) (.slice sp sn sc) (dn+1) cl c)/\V.1[A]?=some (Il DR (.slice ep en ec))) _ _ _ _ ?_;refine Fst.tk (ls:=[6]) (i:=3) (v:=?v11) rfl (Or.inl ⟨by rfl,?h11⟩) HS ?r11
   case h11=>(rintro V ⟨s,-⟩;obtain⟨s0,s1,s2,s3,-,-,-,-,-,-,-,-,-,-,-⟩:=gh s;go_simp;try with_reducible rfl)
   try simp only[qS]
   refine Fst.tk (ls:=[6]) (i:=4) (v:=?v12) rfl (Or.inl ⟨by rfl,?h12⟩) HS ?r12
   case h12=>(rintro V ⟨-,s⟩;obtain⟨s0,s1,s2,s3,s4,s5,s6,s7,s8,s9⟩:=ev s;go_simp;try with_reducible rfl)
   try simp only[qS]
   refine Fst.one (late:=λk=>[6].contains k) (i:=5) (by kernel_rfl) rfl (λK hK=>?_)
   go_simp
   (try go_wp2_with fail)
   first | (refine hK _ _ (⟨(dq (A:=n2) (cS (.slice up un uc) (.slice op on oc) (.slice sp sn sc) (dn+1)) 0 Y.drew (by omega)).trans HRB.out,(dq (A:=n2) (cS (.slice up un uc) (.slice op on oc) (.slice sp sn sc) (dn+1)) 0 Y.drew (by omega)).trans HRA.out⟩) ?_;clear hK K) | skip
   try simp only[qS]
   clear HS;refine Fst.rest (by kernel_rfl) ?_;have H2P:Hid (Y.1[n2]?=some sI):=HR2.out;obtain⟨Y2,hY2⟩:=qF (((((Y.setCell ⟨n2,0,none⟩ (.slice up un uc)).setCell ⟨n2,1,none⟩ (.slice op on oc)).setCell ⟨n2,2,none⟩ (.slice sp sn sc)).setCell ⟨n2,3,none⟩ (.int .i64 (dn+1))).drew);rw[<-hY2];have hY3:Y2=(Y.setCells n2 0 (cS (.slice up un uc) (.slice op on oc) (.slice sp sn sc) (dn+1))).drew:=hY2;have hwn:w.1.size<=n2/\w.1.size<=n3:=by have h:=HN.out;omega
   have H3Y:Hid (Y2.1[n3]?=some fJ):=by show _=_;rw[hY3];exact (dq (A:=n2) (cS (.slice up un uc) (.slice op on oc) (.slice sp sn sc) (dn+1)) 0 Y (by omega)).trans HR3.out
   have H2Y:Hid (Y2.1[n2]?=some (gB (.slice up un uc) (.slice op on oc) (.slice sp sn sc) (dn+1))):=by show _=_;rw[hY3];exact dO (cS (.slice up un uc) (.slice op on oc) (.slice sp sn sc) (dn+1)) H2P.out rfl
   have HTY:Hid (cD (λb=>(S b/\b<w.1.size)\/(tb<b/\b≠A)) Y2 (.slice up un uc) L'):=by show cD _ _ _ _;rw[hY3];exact df (A:=n2) (S:=λb=>(S b/\b<w.1.size)\/(tb<b/\b≠A)) (by omega) (cS (.slice up un uc) (.slice op on oc) (.slice sp sn sc) (dn+1)) 0 Y HTT.out
   have HOY:Hid (At Os.EO (λb=>(S b/\b<w.1.size)\/(tb<b/\b≠A)) Y2 (.slice op on oc) DO):=by show At _ _ _ _ _;rw[hY3];exact dB (A:=n2) (S:=λb=>(S b/\b<w.1.size)\/(tb<b/\b≠A)) (by omega) (cS (.slice up un uc) (.slice op on oc) (.slice sp sn sc) (dn+1)) 0 Y HOO.out
   have HEY:Hid (At EE (λb=>(S b/\b<w.1.size)\/(tb<b/\b≠A)) Y2 (.slice ep en ec) DR.cE):=by show At _ _ _ _ _;rw[hY3];exact dB (A:=n2) (S:=λb=>(S b/\b<w.1.size)\/(tb<b/\b≠A)) (by omega) (cS (.slice up un uc) (.slice op on oc) (.slice sp sn sc) (dn+1)) 0 Y HEE.out
   have HBY:Hid (Bw w Y2):=by show Below _ _ _;rw[hY3];exact cX (da hwn.1 (cS (.slice up un uc) (.slice op on oc) (.slice sp sn sc) (dn+1)) 0 Y HBB.out)
   obtain⟨j0,j1,j2,j3⟩:=dg H2Y.out;obtain⟨g0,g1,g2,g3,g4,g5,g6,g7,g8,g9⟩:=ev H3Y.out;have gg:=dw H3Y.out;clear hY2 hY3 HTT HOO HEE HBB HRA HRB HR3 HR2 H2P f0 f1 f2 f3 ff;refine qU 6 λK hK=>?_
   go_simp
   (try go_wp2_with fail)
   first | (refine hK _ _ ?_;clear hK K) | skip
   try simp only[qS]
   refine N1 (by kernel_rfl) ?_ _;go_wp2
   (try simp only[Exit.inBlock,Exit.then])
   refine MK (v:=.tuple #[iB (.slice up un uc) (.slice op on oc) (.slice sp sn sc) (dn+1),VR DR (.slice ep en ec)]) ?_ rfl ⟨.slice up un uc,.slice op on oc,.slice ep en ec,L',rfl,?_,HPP.out,?_,?_,?_⟩
   ·rw[kP rfl]
    go_simp
   ·exact (df (A:=n3) (S:=λb=>(S b/\b<w.1.size)\/(tb<b/\b≠A)) (by omega) (cR DR (.slice ep en ec)) 0 Y2 HTY.out).imp (λb hb _=>by rcases hb with h | h;exact .inl h.1;exact .inr (by omega))
   ·exact (dB (A:=n3) (S:=λb=>(S b/\b<w.1.size)\/(tb<b/\b≠A)) (by omega) (cR DR (.slice ep en ec)) 0 Y2 HOY.out).imp (λb hb _=>by rcases hb with h | h;exact .inl h.1;exact .inr (by omega))
   ·exact (dB (A:=n3) (S:=λb=>(S b/\b<w.1.size)\/(tb<b/\b≠A)) (by omega) (cR DR (.slice ep en ec)) 0 Y2 HEY.out).imp (λb hb _=>by rcases hb with h | h;exact .inl h.1;exact .inr (by omega))
   ·exact da hwn.2 (cR DR (.slice ep en ec)) 0 Y2 HBY.out
  ·rw[ME hr]at hce;subst hce;have hR:=HDR.out;have hT:=HDT.out;have hO:=HDO.out;rw[ME hr]at hR hT hO;have hD:=HD1.out;subst hR hT hO hD;clear hr HDR HDT HDO HD1;go_wp2_with fail;refine NX (by kernel_rfl) ?_;change wpAny _ _ _ _ _ _ _ (World.drew _);refine qV (i:=1) rfl ?_
   try simp only[qS]
   have HS:(λV:World=>V.1[n0]?=some (gB (.slice ai ni ci) (.slice ao no co) (.slice sp sn sc) (dn+1))) w3.drew:=H03.out;refine Fst.iu (late:=λk=>[3,4].contains k) (S:=λV:World=>V.1[n0]?=some (gB (.slice ai ni ci) (.slice ao no co) (.slice sp sn sc) (dn+1))) _ _ _ _ ?_;refine Fst.tk (ls:=[3,4]) (i:=0) (v:=?v4) rfl (Or.inl ⟨by rfl,?h4⟩) HS ?r4
   case h4=>(intro V s;obtain⟨s0,s1,s2,s3⟩:=dg s;go_simp;try with_reducible rfl)
   try simp only[qS]
   refine Fst.one (late:=λk=>[3,4].contains k) (i:=2) (by kernel_rfl) rfl (λK hK=>?_)
   go_simp
   refine (eV (413) _).mono ?_;rintro e w5 ⟨rfl,hb5⟩;have hb55:Bw w3 w5:=dH hb5;have HB5:=hH<|HB3.out.trans (hb55.mono HB3.size);have HS5:=hH<|(hb55.block _ (qL H03)).trans H03;have H25:=hH<|(hb55.block _ (qL H23)).trans H23;have H35:=hH<|(hb55.block _ (qL H33)).trans H33;have HV5:Hid (cD (λb=>S b/\b<w.1.size) w5 (.slice ai ni ci) L):=HVX.out.up hb55;have HO5:Hid (At Os.EO (λb=>S b/\b<w.1.size) w5 (.slice ao no co) O):=HOX.out.up hb55;obtain⟨f0,f1,f2,f3⟩:=dg H25.out;have ff:=dw H25.out;obtain⟨g0,g1,g2,g3,g4,g5,g6,g7,g8,g9⟩:=ev H35.out;have gg:=dw H35.out;clear hb5 hb55 HS
   (try go_wp2_with fail)
   first | (refine hK _ _ (HS5.out) ?_;clear hK K) | skip
   try simp only[qS]
   refine Fst.rest (by kernel_rfl) ?_;refine qU 3 λK hK=>?_
   go_simp
   (try go_wp2_with fail)
   first | (refine hK _ _ ?_;clear hK K) | skip
   try simp only[qS]
   refine qU 4 λK hK=>?_
   go_simp
   (try go_wp2_with fail)
   first | (refine hK _ _ ?_;clear hK K) | skip
   try simp only[qS]
   refine N1 (by kernel_rfl) ?_ _;go_wp2
   (try simp only[Exit.inBlock,Exit.then])
   refine MK (v:=.tuple #[iB (.slice ai ni ci) (.slice ao no co) (.slice sp sn sc) (dn+1),iM (413)]) ?_ rfl ⟨.slice ai ni ci,.slice ao no co,.slice none 0 0,L,rfl,?_,rfl,?_,At.nil,?_⟩
   ·rw[kP rfl]
    go_simp
   ·exact Dg (cS (.slice ai ni ci) (.slice ao no co) (.slice sp sn sc) (dn+1)) (cR (Nf.bad (413)) (.slice none 0 0)) HV5.out (λb hb=>by have h:=HN.out;exact⟨by omega,by omega,.inl hb.1⟩)
   ·exact Hb (cS (.slice ai ni ci) (.slice ao no co) (.slice sp sn sc) (dn+1)) (cR (Nf.bad (413)) (.slice none 0 0)) HO5.out (λb hb=>by have h:=HN.out;exact⟨by omega,by omega,.inl hb.1⟩)
   ·have h:=HN.out;exact wD (cS (.slice ai ni ci) (.slice ao no co) (.slice sp sn sc) (dn+1)) (cR (Nf.bad (413)) (.slice none 0 0)) HB5.out (by omega) (by omega)
 ·rw[ME hz]at hDD hDR hDT hDO;subst hDD hDR hDT hDO;have hzb:(RE != 0)=true:=by simpa using hz
  go_enter Tryz.func56,Tryz.ntmps56;go_wp2_with fail;rw[<-hW,HE3.out,HE2.out,HE1.out,HE0.out];clear hW;refine (sE (.slice ai ni ci) (.slice ao no co) sp sn sc dn cl L O W HV.out HOK.out HO.out.wide).mono ?_;rintro e w1 ⟨rfl,hb1⟩;rw[HRE.out];go_wp2_with fail;have HVX:Hid (cD (λb=>S b/\b<w.1.size) w1 (.slice ai ni ci) L):=HV.out.up hb1;have HOX:Hid (At Os.EO (λb=>S b/\b<w.1.size) w1 (.slice ao no co) O):=HO.out.up hb1;have H01:=hH<|(hb1.block _ qo).trans H0;have H21:=hH<|(hb1.block _ qo).trans H2;have H31:=hH<|(hb1.block _ qo).trans H3;have HB1:=hH<|HB0.out.trans (hb1.mono HB0.size);clear hb1 HB0 H0 H1 H2 H3 HV HO;refine NX (by kernel_rfl) ?_;change wpAny _ _ _ _ _ _ _ (World.drew _);refine qV (i:=1) rfl ?_
  try simp only[qS]
  have HS:(λV:World=>V.1[n0]?=some (gB (.slice ai ni ci) (.slice ao no co) (.slice sp sn sc) (dn))) w1.drew:=H01.out;refine Fst.iu (late:=λk=>[3,4].contains k) (S:=λV:World=>V.1[n0]?=some (gB (.slice ai ni ci) (.slice ao no co) (.slice sp sn sc) (dn))) _ _ _ _ ?_;refine Fst.tk (ls:=[3,4]) (i:=0) (v:=?v2) rfl (Or.inl ⟨by rfl,?h2⟩) HS ?r2
  case h2=>(intro V s;obtain⟨s0,s1,s2,s3⟩:=dg s;go_simp;try with_reducible rfl)
  try simp only[qS]
  refine Fst.one (late:=λk=>[3,4].contains k) (i:=2) (by kernel_rfl) rfl (λK hK=>?_)
  go_simp
  refine (eV (RE) _).mono ?_;rintro e w5 ⟨rfl,hb5⟩;have hb55:Bw w1 w5:=dH hb5;have HB5:=hH<|HB1.out.trans (hb55.mono HB1.size);have HS5:=hH<|(hb55.block _ (qL H01)).trans H01;have H25:=hH<|(hb55.block _ (qL H21)).trans H21;have H35:=hH<|(hb55.block _ (qL H31)).trans H31;have HV5:Hid (cD (λb=>S b/\b<w.1.size) w5 (.slice ai ni ci) L):=HVX.out.up hb55;have HO5:Hid (At Os.EO (λb=>S b/\b<w.1.size) w5 (.slice ao no co) O):=HOX.out.up hb55;obtain⟨f0,f1,f2,f3⟩:=dg H25.out;have ff:=dw H25.out;obtain⟨g0,g1,g2,g3,g4,g5,g6,g7,g8,g9⟩:=ev H35.out;have gg:=dw H35.out;clear hb5 hb55 HS
  (try go_wp2_with fail)
  first | (refine hK _ _ (HS5.out) ?_;clear hK K) | skip
  try simp only[qS]
  refine Fst.rest (by kernel_rfl) ?_;refine qU 3 λK hK=>?_
  go_simp
  (try go_wp2_with fail)
  first | (refine hK _ _ ?_;clear hK K) | skip
  try simp only[qS]
  refine qU 4 λK hK=>?_
  go_simp
  (try go_wp2_with fail)
  first | (refine hK _ _ ?_;clear hK K) | skip
  try simp only[qS]
  refine N1 (by kernel_rfl) ?_ _;go_wp2
  (try simp only[Exit.inBlock,Exit.then])
  refine MK (v:=.tuple #[iB (.slice ai ni ci) (.slice ao no co) (.slice sp sn sc) (dn),iM (RE)]) ?_ rfl ⟨.slice ai ni ci,.slice ao no co,.slice none 0 0,L,rfl,?_,rfl,?_,At.nil,?_⟩
  ·rw[kP rfl]
   go_simp
  ·exact Dg (cS (.slice ai ni ci) (.slice ao no co) (.slice sp sn sc) (dn)) (cR (Nf.bad (RE)) (.slice none 0 0)) HV5.out (λb hb=>by have h:=HN.out;exact⟨by omega,by omega,.inl hb.1⟩)
  ·exact Hb (cS (.slice ai ni ci) (.slice ao no co) (.slice sp sn sc) (dn)) (cR (Nf.bad (RE)) (.slice none 0 0)) HO5.out (λb hb=>by have h:=HN.out;exact⟨by omega,by omega,.inl hb.1⟩)
  ·have h:=HN.out;exact wD (cS (.slice ai ni ci) (.slice ao no co) (.slice sp sn sc) (dn)) (cR (Nf.bad (RE)) (.slice none 0 0)) HB5.out (by omega) (by omega)
end Go.Proofs.YtiifhfmekbhlnaaGreat
