/- Part 23. -/
import Derived.Lib.AppendZeros
import Derived.Test.YtiifhfmekbhlnaaGreatH22
set_option maxHeartbeats 8000000
set_option maxRecDepth 100000
namespace Go.Proofs.YtiifhfmekbhlnaaGreat.Ks.Rs
open ChangeShapes WideShapes ChangeAt RowKit Deep
open Go.Proofs.YtiifhfmekbhlnaaGreat.Ks.Ak
namespace Ak
open Go.Proofs.YtiifhfmekbhlnaaGreat.Ks.Ak
theorem jj : ∀ (f : Nat) (last : Int) (l : List UInt8),∀ x ∈ (Pl.parse f last l).1,x.2.size ≤ 65535
 | 0,_,_,x,hx=>by simp[Pl.parse]at hx
 | f+1,last,l,x,hx => by
  unfold Pl.parse at hx;split at hx
  ·simp at hx
  ·split at hx
   ·unfold Pl.join at hx
    split at hx
    ·simp only[List.cons_append,List.nil_append,List.mem_cons]at hx
     rcases hx with rfl | hx
     ·simp only[Pl.jm,Pl.iP,List.length_take]
      have h1:=(l.getD 1 0).toNat_lt;have h2:=(l.getD 2 0).toNat_lt;unfold Pl.lenOf;omega
     ·exact jj f _ _ x hx
    ·simp at hx
   ·simp at hx
theorem xi (L:List UInt8){k:Nat}(h:k<(Pl.dA L).length):((Pl.dA L).getD k (0,.empty)).2.size<=65535:=by
 have:(Pl.dA L).getD k (0,.empty)=(Pl.dA L)[k]:=by simp[List.getD,h]
 rw[this];exact jj _ _ _ _ (List.getElem_mem h)
end Ak
open Go.Proofs.YtiifhfmekbhlnaaGreat.Ks.Rs.Ak
theorem Cj {a b:ByteArray}(h:a≠b):(a.toList==b.toList)=false:=by
 rw[ND,ND,MQ];intro e;apply h
 rw[<-Pl.gk a,<-Pl.gk b,e]
namespace Re
theorem Hd (l)(t):(Pl.dj l t).foldl (λ_ s=>s) (⟨#[]⟩:ByteArray)=eR l t:=by
 induction l using yf with
 | h0=>rfl
 | h1 l x ih =>
  rw[nL,qq,List.foldl_append,ih]
  by_cases h:x.1=t
  ·have : Pl.dj [x] t=[x.2] := by simp[Pl.dj,h]
   rw[this,MC h];rfl
  ·have : Pl.dj [x] t=[] := by simp[Pl.dj,h]
   rw[this,ME h];rfl
theorem KY (A:List ByteArray)(r:gw)(b:ByteArray) (h:r.e=Pl.de b):A.foldl tp r = { r with e:=Pl.de (A.foldl (λ_ s=>s) b) }:=by
 induction A generalizing r b with
 | nil=>cases r;simp only at h;subst h;rfl
 | cons x A ih=>exact ih (tp r x) x rfl
theorem K5 (A:List ByteArray)(r:gw) (b:ByteArray) (h:r.no=jR b/\r.gen=iC b):A.foldl vI r = { r with no:=jR (A.foldl (λ_ s=>s) b),gen:=iC (A.foldl (λ_ s=>s) b) }:=by
 induction A generalizing r b with
 | nil=>cases r;simp only at h;obtain⟨a,c⟩:=h;subst a;subst c;rfl
 | cons x A ih=>exact ih (vI r x) x ⟨rfl,rfl⟩
theorem Ly (A:List ByteArray) (r:gw) (b:ByteArray) (h:r.k=(ua b).1/\r.l=(ua b).2.1/\r.s=(ua b).2.2.1/\r.t=(ua b).2.2.2):A.foldl xM r = { r with k:=(ua (A.foldl (λ_ s=>s) b)).1,l:=(ua (A.foldl (λ_ s=>s) b)).2.1,s:=(ua (A.foldl (λ_ s=>s) b)).2.2.1,t:=(ua (A.foldl (λ_ s=>s) b)).2.2.2 }:=by
 induction A generalizing r b with
 | nil=>cases r;simp only at h;obtain⟨a,c,d,f⟩:=h;subst a;subst c;subst d;subst f;rfl
 | cons x A ih=>exact ih (xM r x) x ⟨rfl,rfl,rfl,rfl⟩
theorem Lj (A:List ByteArray)(r:gw)(b:ByteArray) (h:r.data=b):A.foldl AV r = { r with data:=A.foldl (λ_ s=>s) b }:=by
 induction A generalizing r b with
 | nil=>cases r;simp only at h;subst h;rfl
 | cons x A ih=>exact ih (AV r x) x rfl
theorem JT (A:List ByteArray) (r:gw):A.foldl Fm r = { r with cE:=r.cE++A.map jr }:=by
 induction A generalizing r with
 | nil=>cases r;simp
 | cons x A ih =>
  show A.foldl Fm (Fm r x)=_;rw[ih];simp[Fm]
theorem LJ (A:List ByteArray)(r:gw)(b:ByteArray) (h:r.n=Pl.de b):A.foldl JV r = { r with n:=Pl.de (A.foldl (λ_ s=>s) b) }:=by
 induction A generalizing r b with
 | nil=>cases r;simp only at h;subst h;rfl
 | cons x A ih=>exact ih (JV r x) x rfl
theorem JX:ua ⟨#[]⟩=(0,0,0,0):=by
 unfold ua;rw[ME];unfold At.dX;rw[ME qd]
 decide
theorem reads (l:List (Int × ByteArray)):(Pl.dj l 6).foldl JV ((Pl.dj l 5).foldl Fm ((Pl.dj l 4).foldl AV ((Pl.dj l 3).foldl xM ((Pl.dj l 2).foldl vI ((Pl.dj l 1).foldl tp zero)))))=eT l:=by
 have a:Pl.de ⟨#[]⟩=0:=qd
 have b:jR ⟨#[]⟩=0/\iC ⟨#[]⟩=0:=by decide
 rw[KY _ zero ⟨#[]⟩ a.symm,K5 _ _ ⟨#[]⟩ ⟨b.1.symm,b.2.symm⟩,Ly _ _ ⟨#[]⟩ (by rw[JX];exact⟨rfl,rfl,rfl,rfl⟩),Lj _ _ ⟨#[]⟩ rfl,JT,LJ _ _ ⟨#[]⟩ a.symm];simp only[Hd];unfold eT;simp[zero]
end Re
theorem FI {w:World}{B:Nat}{e:TypeId}{v:Value}{l:List eA}(h:w.ownsRow B e 4 v l.length (EE.flat l)):At EE (λb=>B<=b) w v l:=by
 have m:Row EE w B e v l:=by
  rcases h.2 with⟨rfl,n⟩ | ⟨g,c,d,rfl,f,o,i,j,k,a⟩
  ·obtain rfl := MX n
   exact .inl ⟨rfl,rfl⟩
  ·exact .inr ⟨g,c,d,rfl,f,o,i,j,Nat.le_of_eq k.symm,a⟩
 exact m.at
def KX (w:World) (b:Nat) (r:gw) (v:Value):World:=(((((((((w.setCell ⟨b,0,none⟩ (.int .i64 r.e)).setCell ⟨b,1,none⟩ (.int .i64 r.no)).setCell ⟨b,2,none⟩ (.int .i64 r.gen)).setCell ⟨b,3,none⟩ (.int .i64 r.k)).setCell ⟨b,4,none⟩ (.int .i64 r.l)).setCell ⟨b,5,none⟩ (.int .i64 r.s)).setCell ⟨b,6,none⟩ (.int .i64 r.t)).setCell ⟨b,7,none⟩ (.string r.data)).setCell ⟨b,8,none⟩ v).setCell ⟨b,9,none⟩ (.int .i64 r.n)
theorem lj {B b:Nat}{w w':World}(h:Below B w w')(hb:B<=b)(d:gw)(u):Below B w (KX w' b d u) :=
 (((((((((h.setCell (p:=⟨b,0,none⟩) hb _).setCell (p:=⟨b,1,none⟩) hb _).setCell (p:=⟨b,2,none⟩) hb _).setCell (p:=⟨b,3,none⟩) hb _).setCell (p:=⟨b,4,none⟩) hb _).setCell (p:=⟨b,5,none⟩) hb _).setCell (p:=⟨b,6,none⟩) hb _).setCell (p:=⟨b,7,none⟩) hb _).setCell (p:=⟨b,8,none⟩) hb _).setCell (p:=⟨b,9,none⟩) hb _
theorem ub (w:World)(b:Nat)(d:gw)(u:Value):w.grownBy (KX w b d u) (some b) :=
 cQ (cQ (cQ (cQ (cQ (cQ (cQ (cQ (cQ (eH w b 0 _) (eH _ b 1 _)) (eH _ b 2 _)) (eH _ b 3 _)) (eH _ b 4 _)) (eH _ b 5 _)) (eH _ b 6 _)) (eH _ b 7 _)) (eH _ b 8 _)) (eH _ b 9 _)
theorem jW (f:gw->ByteArray->gw)(hf:∀ r s,(f r s).cE=r.cE)(A:List ByteArray) (r:gw):(A.foldl f r).cE=r.cE:=by
 induction A generalizing r with
 | nil=>rfl
 | cons x A ih=>exact (ih (f r x)).trans (hf r x)
theorem D7 (fv)(l)(w)(hf:cT w.1.size w fv l)(hln:l.length<=400000)(hsm:∀ x∈l,x.2.size<=65535) :
  Calls Tryz.prog 80 #[fv] w λe w'=>∃ v,e=.returned (VR (Re.eT l) v)/\At EE (λb=>w.1.size<=b) w' v (Re.eT l).cE/\Bw w w':=by
 have o:=hH hf;have c:=hH hln;have d:=hH hsm;have p:=hH<|Re.reads l;obtain⟨N,y⟩:∃ N:Value,N=.slice none 0 0:=⟨_,rfl⟩;have f:Hid (Rs w.1.size (w.1.size+1) w Re.zero N ((w.alloc (BR Re.zero (.slice none 0 0))).alloc (BR Re.zero (.slice none 0 0)))/\((w.alloc (BR Re.zero (.slice none 0 0))).alloc (BR Re.zero (.slice none 0 0))).1[w.1.size]?=some (BR Re.zero (.slice none 0 0))):=by
  rw[y];refine⟨⟨?_,NH _ _ _ _,(qG _ _).alloc qs _,qo,qn⟩,(ML _ _ _ qs).trans (MD w _)⟩;have:=MD (w.alloc (BR Re.zero (.slice none 0 0))) (BR Re.zero (.slice none 0 0));rw[NV]at this;exact this
 clear hf hln hsm y;go_enter Tryz.func80,Tryz.ntmps80;go_wp2_with fail;refine (kL w.1.size (w.1.size+1) w (F6 _ _ _) 400000 qo _ N _ l 1 _ f.out.1 (MV _) ((o.below f.out.1.below qn).mono f.out.1.below.size) c d).mono ?_;rintro e T ⟨rfl,U,A,B⟩;have g:Hid (Rs w.1.size (w.1.size+1) w ((Pl.dj l 1).foldl Re.tp Re.zero) U T/\T.1[w.1.size]?=some (BR Re.zero (.slice none 0 0))):=⟨A,B.2 _ _ _ qd (by omega) f.out.2⟩;have q:Hid (((Pl.dj l 1).foldl Re.tp Re.zero).cE.length<=400000):=by show ((Pl.dj l 1).foldl Re.tp Re.zero).cE.length<=_;rw[jW Re.tp (λ_ _=>rfl)];exact MV _
 clear A B;go_wp2_with fail;refine (kL w.1.size (w.1.size+1) w (FG _ _ _) 400000 qo _ U _ l 2 _ g.out.1 q ((o.below g.out.1.below qn).mono g.out.1.below.size) c d).mono ?_;rintro e V ⟨rfl,W,C,D⟩;have h:Hid (Rs w.1.size (w.1.size+1) w ((Pl.dj l 2).foldl Re.vI ((Pl.dj l 1).foldl Re.tp Re.zero)) W V/\V.1[w.1.size]?=some (BR Re.zero (.slice none 0 0))):=⟨C,D.2 _ _ _ qd (by omega) g.out.2⟩;have s:Hid (((Pl.dj l 2).foldl Re.vI ((Pl.dj l 1).foldl Re.tp Re.zero)).cE.length<=400000):=by show ((Pl.dj l 2).foldl Re.vI ((Pl.dj l 1).foldl Re.tp Re.zero)).cE.length<=_;rw[jW Re.vI (λ_ _=>rfl)];exact q
 clear C D;go_wp2_with fail;refine (kL w.1.size (w.1.size+1) w (FR _ _ _) 400000 qo _ W _ l 3 _ h.out.1 s ((o.below h.out.1.below qn).mono h.out.1.below.size) c d).mono ?_;rintro e X ⟨rfl,Y,E,F⟩;have i:Hid (Rs w.1.size (w.1.size+1) w ((Pl.dj l 3).foldl Re.xM ((Pl.dj l 2).foldl Re.vI ((Pl.dj l 1).foldl Re.tp Re.zero))) Y X/\X.1[w.1.size]?=some (BR Re.zero (.slice none 0 0))):=⟨E,F.2 _ _ _ qd (by omega) h.out.2⟩;have t:Hid (((Pl.dj l 3).foldl Re.xM ((Pl.dj l 2).foldl Re.vI ((Pl.dj l 1).foldl Re.tp Re.zero))).cE.length<=400000):=by show ((Pl.dj l 3).foldl Re.xM ((Pl.dj l 2).foldl Re.vI ((Pl.dj l 1).foldl Re.tp Re.zero))).cE.length<=_;rw[jW Re.xM (λ_ _=>rfl)];exact s
 clear E F;go_wp2_with fail;refine (kL w.1.size (w.1.size+1) w (Ii _ _ _) 400000 qo _ Y _ l 4 _ i.out.1 t ((o.below i.out.1.below qn).mono i.out.1.below.size) c d).mono ?_;rintro e Z ⟨rfl,v5,G,H⟩;have k:Hid (Rs w.1.size (w.1.size+1) w ((Pl.dj l 4).foldl Re.AV ((Pl.dj l 3).foldl Re.xM ((Pl.dj l 2).foldl Re.vI ((Pl.dj l 1).foldl Re.tp Re.zero)))) v5 Z/\Z.1[w.1.size]?=some (BR Re.zero (.slice none 0 0))):=⟨G,H.2 _ _ _ qd (by omega) i.out.2⟩;have Q:Hid (((Pl.dj l 4).foldl Re.AV ((Pl.dj l 3).foldl Re.xM ((Pl.dj l 2).foldl Re.vI ((Pl.dj l 1).foldl Re.tp Re.zero)))).cE.length<=400000):=by show ((Pl.dj l 4).foldl Re.AV ((Pl.dj l 3).foldl Re.xM ((Pl.dj l 2).foldl Re.vI ((Pl.dj l 1).foldl Re.tp Re.zero)))).cE.length<=_;rw[jW Re.AV (λ_ _=>rfl)];exact t
 clear G H;go_wp2_with fail;refine (kL w.1.size (w.1.size+1) w (Ia _ _ _) 400000 qo _ v5 _ l 5 _ k.out.1 Q ((o.below k.out.1.below qn).mono k.out.1.below.size) c d).mono ?_;rintro e w6 ⟨rfl,v6,I,J⟩;have m:Hid (Rs w.1.size (w.1.size+1) w ((Pl.dj l 5).foldl Re.Fm ((Pl.dj l 4).foldl Re.AV ((Pl.dj l 3).foldl Re.xM ((Pl.dj l 2).foldl Re.vI ((Pl.dj l 1).foldl Re.tp Re.zero))))) v6 w6/\w6.1[w.1.size]?=some (BR Re.zero (.slice none 0 0))):=⟨I,J.2 _ _ _ qd (by omega) k.out.2⟩;have R:Hid (((Pl.dj l 5).foldl Re.Fm ((Pl.dj l 4).foldl Re.AV ((Pl.dj l 3).foldl Re.xM ((Pl.dj l 2).foldl Re.vI ((Pl.dj l 1).foldl Re.tp Re.zero))))).cE.length<=400000):=by
  show ((Pl.dj l 5).foldl Re.Fm ((Pl.dj l 4).foldl Re.AV ((Pl.dj l 3).foldl Re.xM ((Pl.dj l 2).foldl Re.vI ((Pl.dj l 1).foldl Re.tp Re.zero))))).cE.length<=_;rw[Re.JT];have h1:((Pl.dj l 4).foldl Re.AV ((Pl.dj l 3).foldl Re.xM ((Pl.dj l 2).foldl Re.vI ((Pl.dj l 1).foldl Re.tp Re.zero)))).cE=[]:=by rw[jW Re.AV (λ_ _=>rfl),jW Re.xM (λ_ _=>rfl),jW Re.vI (λ_ _=>rfl),jW Re.tp (λ_ _=>rfl)];rfl
  simp only[h1,List.nil_append,List.length_map];unfold Pl.dj;rw[M8];exact MS (OH _ _) c
 clear I J;go_wp2_with fail;refine (kL w.1.size (w.1.size+1) w (Hp _ _ _) 400000 qo _ v6 _ l 6 _ m.out.1 R ((o.below m.out.1.below qn).mono m.out.1.below.size) c d).mono ?_;rintro e O ⟨rfl,v7,K,L⟩;have a:Hid (Rs w.1.size (w.1.size+1) w ((Pl.dj l 6).foldl Re.JV ((Pl.dj l 5).foldl Re.Fm ((Pl.dj l 4).foldl Re.AV ((Pl.dj l 3).foldl Re.xM ((Pl.dj l 2).foldl Re.vI ((Pl.dj l 1).foldl Re.tp Re.zero)))))) v7 O/\O.1[w.1.size]?=some (BR Re.zero (.slice none 0 0))):=⟨K,L.2 _ _ _ qd (by omega) m.out.2⟩;clear K L;rw[p.out]at a;obtain⟨r,S⟩:=qE (Re.eT l);rw[S]at a;have u:Hid (Re.eT l=r):=S;obtain⟨P,n,M,-,-⟩:=(FI a.out.1.row).open;obtain⟨z,hz⟩:=qE r.cE.length;rw[hz]at M;subst M;obtain⟨c0,c1,c2,c3,c4,c5,c6,c7,c8,c9⟩:=dK a.out.1.box;obtain⟨d0,d1,d2,d3,d4,d5,d6,d7,d8,d9⟩:=dK a.out.2;have aa:=dC a.out.1.box;have ab:=dC a.out.2;have fa:∀ j,O.frozen? ⟨w.heap.size,j,none⟩=false:=λj=>by simp[World.frozen?,a.out.2]
 clear S p;go_wp2;refine MK (v:=VR r (.slice P z n)) (by simp[results,Tryz.results80,go_sem,d0,d1,d2,d3,d4,d5,d6,d7,d8,d9]) rfl ⟨.slice P z n,?_,?_,?_⟩
 ·rw[u.out]
 ·rw[u.out]
  exact FI (a.out.1.row.kept (ub O w.1.size r (.slice P z n)) (.inr (not_row a.out.2 qd a.out.1.row).symm))
 ·exact lj a.out.1.below qn r (.slice P z n)
namespace Ak
open Go.Proofs.YtiifhfmekbhlnaaGreat.Ks.Ak
theorem wC : ∀ (f : Nat) (last : Int) (l : List UInt8),(Pl.parse f last l).1.length*3 ≤ l.length
 | 0,_,_=>by simp[Pl.parse]
 | f+1,last,l => by
  unfold Pl.parse;split
  ·simp
  ·split
   ·rename_i h1 h2
    have ih:=wC f (Pl.lA l) (l.drop (3+Pl.lenOf l));have h3:¬ l.length<3:=by
     intro h;simp[Pl.gS,h]at h2
    unfold Pl.join;split
    ·simp only[List.cons_append,List.nil_append,List.length_cons]
     rw[NT]at ih;omega
    ·simp
   ·simp
end Ak
open Go.Proofs.YtiifhfmekbhlnaaGreat.Ks.Rs.Ak
theorem Re.EK {l:List (Int × ByteArray)}(h:∀ x∈l,x.2.size<=65535):∀ x∈(Re.eT l).cE,x.1.size<=maxLen:=by
 intro x a;unfold Re.eT at a;simp only at a;obtain⟨s,b,rfl⟩:=NI.1 a;unfold Pl.dj at b;obtain⟨y,c,rfl⟩:=NI.1 b;have d:=h y (NK.1 c).1;unfold Re.jr maxLen;split
 ·exact MV _
 ·simp only[ByteArray.size_extract]
  omega
theorem yu (s : ByteArray) (w : World) (hs : s.size ≤ 1048576) :
    Calls Tryz.prog 47 #[.string s] w λe w'=>∃ v,e = .returned (.tuple #[VR (Re.mU s.data.toList) v,.int .i64 (Re.fZ s.data.toList)])/\At EE (λb=>w.heap.size<=b) w' v (Re.mU s.data.toList).cE/\Below w.heap.size w w':=by
  have HS:Hid (s.size<=1048576):=hs
  obtain ⟨l,hl⟩:∃ l,Pl.dA s.data.toList = l:=⟨_,rfl⟩
  have HL:Hid (Pl.dA s.data.toList=l):=hl
  have HSM:Hid (∀ x∈l,x.2.size<=65535):=by rw [<-hl];exact jj _ _ _
  have HLN:Hid (l.length<=400000):=by
    have h1:=wC s.data.toList.length 1 s.data.toList
    have h2:s.data.toList.length = s.size:=by simp
    rw [<-hl]
    show (Pl.dA s.data.toList).length<=_
    unfold Pl.dA
    omega
  obtain ⟨C,hC⟩:∃ C,Re.mU s.data.toList = C:=⟨_,rfl⟩
  obtain ⟨E,hE⟩:∃ E,Re.fZ s.data.toList = E:=⟨_,rfl⟩
  have HCE:Hid (Re.mU s.data.toList = C/\Re.fZ s.data.toList = E):=⟨hC,hE⟩
  rw [hC,hE]
  clear hC hE hl hs
  by_cases h0:Pl.dX s.data.toList = 0
  · have H0 : Hid (Pl.dX s.data.toList = 0) := h0
    clear h0
    go_enter Tryz.func47,Tryz.ntmps47
    go_wp2_with fail
    refine (mM s _ HS.out).mono ?_
    rintro e w1 ⟨fv,rfl,hown,hb1⟩
    rw [H0.out]
    rw [HL.out] at hown
    have HF:Hid (cT w1.1.size w1 fv l):=cT.sj hown
    have HB1:Hid (Below w.1.size w w1):=((MJ _ _).alloc (MI _) _).trans (hb1.mono (by simp))
    have HR1:Hid (w1.1[w.1.size]?=some (BR Re.zero (.slice none 0 0))):=dI (MD w (BR Re.zero (.slice none 0 0))) hb1
    clear hown hb1
    go_wp2_with fail
    refine (D7 fv l _ HF.out HLN.out HSM.out).mono ?_
    rintro e w2 ⟨v,rfl,hv2,hb2⟩
    have HES:Hid (∀ x∈(Re.eT l).cE,x.1.size<=maxLen):=Re.EK HSM.out
    have HCC:Hid (Re.eT (Pl.dA s.data.toList)=Re.eT l):=by show _=_;rw [HL.out]
    generalize Re.eT l = r at *
    have HV2:Hid (At EE (λb=>w1.1.size<=b) w2 v r.cE):=hv2
    obtain ⟨ao,cap,hv,-,-⟩:=hv2.open
    obtain ⟨z,hz⟩:∃ z,r.cE.length = z:=⟨_,rfl⟩
    rw [hz] at hv
    subst hv
    have HB2:=hH<|HB1.out.trans (hb2.mono HB1.size)
    have HR2:Hid (w2.1[w.1.size]?=some (BR Re.zero (.slice none 0 0))):=dI HR1.out hb2
    have hl2:=dC HR2.out
    clear hb2 hv2 hz
    go_wp2_with fail
    refine (sR r _ _ (HV2.out.al _).wide HES.out).mono ?_
    rintro e w3 ⟨rfl,hb3⟩
    have HK3:Hid (w3.1[w2.1.size]?=some (BR r (.slice ao z cap))):=dI (MD w2 _) hb3
    have HR3:Hid (w3.1[w.1.size]?=some (BR Re.zero (.slice none 0 0))):=dI ((ML _ _ _ hl2).trans HR2.out) hb3
    have HB3:Hid (Below w.1.size w w3):=(HB2.out.alloc HB2.out.size _).trans (hb3.mono (by have:=HB2.out.size;simp;omega))
    have HV3:Hid (At EE (λb=>w1.1.size<=b) w3 (.slice ao z cap) r.cE):=(HV2.out.al _).up hb3
    have HLT:Hid (w.1.size<w1.1.size):=dC HR1.out
    have fa:∀ j,w3.frozen? ⟨w.heap.size,j,none⟩ = false:=λj=>by simp [World.frozen?,HR3.out]
    have hl3:w.1.size<w3.1.size:=dC HR3.out
    obtain ⟨d0,d1,d2,d3,d4,d5,d6,d7,d8,d9⟩:=dK HR3.out
    obtain ⟨c0,c1,c2,c3,c4,c5,c6,c7,c8,c9⟩:=dK HK3.out
    clear hb3
    by_cases hp:Re.dd r = 0
    · by_cases hq : Re.db r = s
      · have HY := Re.DP H0.out (by rw [HCC.out]; exact hp) (by rw [HCC.out]; exact hq)
        have H:Hid (C = r/\E = 0):=⟨by rw [<-HCE.out.1,HY.1,HCC.out],by rw [<-HCE.out.2,HY.2]⟩
        rw [hp,hq]
        have t1:(s.toList==s.toList)=true:=OS _
        clear hp hq HY
        go_wp2
        refine MK (v:=.tuple #[VR r (.slice ao z cap),.int .i64 0]) (by simp [results,Tryz.results47,go_sem,d0,d1,d2,d3,d4,d5,d6,d7,d8,d9]) rfl ⟨.slice ao z cap,?_,?_,lj HB3.out (MI _) r (.slice ao z cap)⟩
        · rw [H.out.1,H.out.2]
        · rw [H.out.1]
          exact (HV3.out.grown (ub w3 w.heap.size r (.slice ao z cap)) (λg hg hle=>by cases hg;have:=HLT.out;omega)).imp (λb (hb:w1.heap.size<=b) _=>by have:=HB1.out.size;omega)
      · have HY := Re.uC (s := s) (.inr (.inr (by rw [HCC.out]; exact hq)))
        have H:Hid (C = Re.zero/\E = 4):=⟨by rw [<-HCE.out.1,HY.1],by rw [<-HCE.out.2,HY.2]⟩
        rw [hp]
        have t1:=Cj hq
        clear hp hq HY
        generalize Re.db r = p at *
        go_wp2
        refine MK (v:=.tuple #[VR Re.zero (.slice none 0 0),.int .i64 4]) (by simp [results,Tryz.results47,go_sem,Re.zero,d0,d1,d2,d3,d4,d5,d6,d7,d8,d9]) rfl ⟨.slice none 0 0,?_,?_,lj HB3.out (MI _) Re.zero (.slice none 0 0)⟩
        · rw [H.out.1,H.out.2]
        · rw [H.out.1]
          exact At.nil
    · have HY := Re.uC (s := s) (.inr (.inl (by rw [HCC.out]; exact hp)))
      have H:Hid (C = Re.zero/\E = 4):=⟨by rw [<-HCE.out.1,HY.1],by rw [<-HCE.out.2,HY.2]⟩
      have hp':Re.dd r = 4:=by unfold Re.dd at hp |-;split at hp <;> simp_all
      rw [hp']
      clear hp hp' HY
      generalize Re.db r = p at *
      go_wp2
      refine MK (v:=.tuple #[VR Re.zero (.slice none 0 0),.int .i64 4]) (by simp [results,Tryz.results47,go_sem,Re.zero,d0,d1,d2,d3,d4,d5,d6,d7,d8,d9]) rfl ⟨.slice none 0 0,?_,?_,lj HB3.out (MI _) Re.zero (.slice none 0 0)⟩
      · rw [H.out.1,H.out.2]
      · rw [H.out.1]
        exact At.nil
  · have H1 := Re.uC (.inl h0)
    have H:Hid (C = Re.zero/\E = 4):=⟨HCE.out.1.symm.trans H1.1,HCE.out.2.symm.trans H1.2⟩
    obtain ⟨q,hq⟩:∃ q,Pl.dX s.data.toList = q:=⟨_,rfl⟩
    have hq1:(q != 0) = true:=by rw [<-hq];simpa using h0
    have HQ:Hid (Pl.dX s.data.toList=q):=hq
    clear h0 H1 hq
    go_enter Tryz.func47,Tryz.ntmps47
    go_wp2_with fail
    refine (mM s _ HS.out).mono ?_
    rintro e w1 ⟨fv,rfl,hown,hb1⟩
    rw [HQ.out]
    have HB1:Hid (Below w.1.size w w1):=((MJ _ _).alloc (MI _) _).trans (hb1.mono (by simp))
    have HR1:Hid (w1.1[w.1.size]?=some (BR Re.zero (.slice none 0 0))):=dI (MD w (BR Re.zero (.slice none 0 0))) hb1
    have fa:∀ j,w1.frozen? ⟨w.heap.size,j,none⟩ = false:=λj=>by simp [World.frozen?,HR1.out]
    have hl3:w.1.size<w1.1.size:=dC HR1.out
    obtain ⟨d0,d1,d2,d3,d4,d5,d6,d7,d8,d9⟩:=dK HR1.out
    clear hown hb1
    go_wp2
    refine MK (v:=.tuple #[VR Re.zero (.slice none 0 0),.int .i64 4]) (by simp [results,Tryz.results47,go_sem,Re.zero,d0,d1,d2,d3,d4,d5,d6,d7,d8,d9]) rfl ⟨.slice none 0 0,?_,?_,lj HB1.out (MI _) Re.zero (.slice none 0 0)⟩
    · rw [H.out.1,H.out.2]
    · rw [H.out.1]
      exact At.nil
theorem vW (s)(w)(hs:s.size<=1048576) :
  Calls Tryz.prog 47 #[.string s] w λe w'=>∃ v,e=.returned (.tuple #[VR (Re.mU s.data.toList) v,.int .i64 (Re.fZ s.data.toList)])/\ey EE w' v (Re.mU s.data.toList).cE/\Bw w w' :=
 (yu s w hs).mono λ_ _ ⟨v,he,hv,hb⟩=>⟨v,he,hv.wide,hb⟩
end Go.Proofs.YtiifhfmekbhlnaaGreat.Ks.Rs
namespace Go.Proofs.YtiifhfmekbhlnaaGreat
open ChangeShapes WideShapes ChangeAt RowKit Deep It
theorem zQ (x:Es.fB) (w:World) (h:x.2.2.size<=1048576):Calls Tryz.prog 28 #[Es.VS x] w λe w'=>e = .returned (.bool (Sh.oX x))/\Below w.heap.size w w':=by
  obtain ⟨r,hr⟩:∃ r,Ks.Rs.Re.fZ x.2.2.data.toList = r:=⟨_,rfl⟩
  have HC:Hid (∀ V,Calls Tryz.prog 47 #[.string x.2.2] V λe w'=>∃ v,e = .returned (.tuple #[Ks.Rs.VR (Ks.Rs.Re.mU x.2.2.data.toList) v,.int .i64 r])/\ey Ks.Rs.EE w' v (Ks.Rs.Re.mU x.2.2.data.toList).cE/\Below V.heap.size V w'):=λV=>by
    have h:=Ks.Rs.vW x.2.2 V h
    rwa [hr] at h
  have HN:Hid (Sh.oX x=(r != 0)):=by
    show Sh.oX x=_
    unfold Sh.oX
    rw [hr]
    by_cases e:r = 0
    · simp [e]
    · simp [e]
  have HB0:Hid (Below w.1.size w (w.alloc (Es.BS x))):=(MJ _ w).alloc (MI _) _
  clear hr h
  go_enter Tryz.func28,Tryz.ntmps28
  go_wp2_with fail
  refine (HC.out _).mono ?_
  rintro e w1 ⟨v,rfl,hv,hb⟩
  have HB1:=hH<|HB0.out.trans (hb.mono HB0.size)
  obtain ⟨va,vn,vc,rfl⟩:∃ a n c,v = .slice a n c:=by obtain ⟨a,c,h,-⟩:=hv.open;exact ⟨_,_,_,h⟩
  have HS:=HB1.out.size
  clear hv hb HB0
  go_wp2
  go_ret
  rw [HN.out]
  exact ⟨rfl,HB1.out.alloc HS _⟩
theorem K9 (v : Value)(l : List Es.fB)(p : Es.fB → Bool)(w : World)(hv : ey Es.ES w v l)(hp:∀ x∈l,∀ V,Bw w V->Calls Tryz.prog 28 #[Es.VS x] V λe w'=>e=.returned (.bool (p x))/\Bw V w') :
  Calls Tryz.prog 46 #[v,.func (.func 28) #[] #[]] w λe w'=>e=.returned (.int .i64 (uw p l))/\Bw w w':=by
 obtain⟨N,O,rfl,K,L⟩:=hv.open;clear hv;unfold maxLen at K;obtain⟨n,F⟩:=qE l.length;rw[F]at K |-;have I:=hH F;have M:=hH L;have A:=hH hp;clear F L hp;go_enter Tryz.func46,Tryz.ntmps46;go_wp2;go_loopw [8] (λi wr=>∃ k:Nat,k<=n/\i=.int .i64 k/\Hid (∀ j y,j<k->l[j]?=some y->p y=false)/\Hid (Bw w wr)) (λi _=>n-(intOf i).toNat)
 case atStart=>exact⟨0,MV _,rfl,λj y s=>by omega,MJ _ _⟩
 case round =>
  obtain⟨k,U,rfl,G,h⟩:=hrel
  by_cases hlt:k<n
  ·obtain⟨x,d⟩ : ∃ x,l[k]?=some x := ⟨_,MF (by rw[I.out];exact hlt)⟩
   have f:=hH d;obtain⟨t,c,rfl,-,P,m⟩:=M.out k x d;have a:=λj u s=>(h.out.cell (p:=⟨t,c+(k*Es.ES.sz+j),none⟩) P).trans (m j u s)
   have R:wr.cell? ⟨t,c+k*3,none⟩=some (.int .i64 x.1):=a 0 _ rfl;have S:wr.cell? ⟨t,c+k*3+1,none⟩=some (.int .i64 x.2.1):=a 1 _ rfl;have T:wr.cell? ⟨t,c+k*3+2,none⟩=some (.string x.2.2):=a 2 _ rfl;have B:=h.out.size;have C:=A.out x (MG d);clear a m d;have J:(k:Int)<(n:Int):=by omega
   obtain⟨r,o⟩:=qE (p x);go_wp2_with fail;refine (C _ h.out).mono ?_;rintro e Q ⟨rfl,q⟩;rw[o];have g:=hH<|h.out.trans (q.mono B);clear q
   cases r with
   | true =>
    have D:=hH<|p5 f.out o G.out;clear o C;go_wp2;go_ret;rw[D.out];exact⟨rfl,g.out⟩
   | false =>
    have E:Hid (∀ j y,j<k+1->l[j]?=some y->p y=false):=λj y s H=>by
     by_cases e:j=k
     ·subst e
      rw[f.out]at H
      cases H
      exact o
     ·exact G.out j y (by omega) H
    clear o C;go_wp2
    go_roundw
    case rel=>exact⟨k+1,by omega,by go_num,E,g⟩
    case measure=>simp[intOf];omega
  ·obtain rfl : k=n := by omega
   have D:=hH<|n6 λj y s=>G.out j y (by rw[<-I.out];exact s)
   go_wp2;go_ret;rw[D.out];exact⟨rfl,h.out⟩
theorem Lu (v)(l)(p:Es.fB->Bool)(w)(hv:ey Es.ES w v l)(hp:∀ x∈l,∀ V,Bw w V->Calls Tryz.prog 28 #[Es.VS x] V λe w'=>e=.returned (.bool (p x))/\Bw V w') :
  Calls Tryz.prog 27 #[v,.func (.func 28) #[] #[]] w λe w'=>e=.returned (.bool (l.any p))/\Bw w w':=by
 have b:Hid (∀ V,w=V->Calls Tryz.prog 46 #[v,.func (.func 28) #[] #[]] V λe w'=>e=.returned (.int .i64 (uw p l))/\Bw w w'):=λV h=>by subst h;exact K9 v l p w hv hp
 obtain⟨m,g,rfl,i,j⟩:=hv.open;obtain⟨r,d⟩:=qE (uw p l);rw[<-tC,d];rw[d]at b;obtain⟨n,f⟩:=qE l.length;rw[f]at b |-;clear j hv hp d i f;go_enter Tryz.func27,Tryz.ntmps27;go_wp2_with fail;refine (b _ rfl).mono ?_;rintro e k ⟨rfl,a⟩;have c:=hH a;clear a b;go_wp2;go_ret;exact⟨rfl,c⟩
theorem pE {S : Nat → Prop}(vi vo vz )(dn )(L )(O )(Z )(w )(hv : cD S w vi L)(eE : Sp.m6 L)(ho : ey Os.EO w vo O)(hz : ey Es.ES w vz Z) :
  Calls Tryz.prog 14 #[iB vi vo vz dn] w λe w'=>e=.returned (.int .i64 (if Sh.whole (pl L) O Z dn=true then 0 else 4))/\Bw w w':=by
 have T:=hH hv;have U:=hH ho;have J:=hH hz;have K:=hH eE;obtain⟨p,c,rfl,-,-⟩:=hv.open;obtain⟨q,d,rfl,-,-⟩:=ho.open;obtain⟨u,z,rfl,-,-⟩:=hz.open;obtain⟨n,A⟩:=qE L.length;obtain⟨m,B⟩:=qE O.length;obtain⟨k,C⟩:=qE Z.length;rw[A]at T |-;rw[B]at U |-;rw[C]at J |-;obtain⟨W,I⟩:=qF (w.alloc (gB (.slice p n c) (.slice q m d) (.slice u k z) dn));have a:Hid _:=qB I;have g:Hid _:=qC I;obtain⟨P,j⟩:=qE (Nf.right (pl L) O dn);obtain⟨Q,l⟩:=qE (Es.Se.ok Z);obtain⟨r3,o⟩:=qE (Z.any Sh.oX);have X:(if Sh.whole (pl L) O Z dn=true then (0:Int) else 4)=if (P&&(Q && !r3))=true then 0 else 4:=by
  unfold Sh.whole;rw[j,l,o]
 rw[X];have t:Hid (Nf.right (pl L) O dn=P/\Es.Se.ok Z=Q/\Z.any Sh.oX=r3):=⟨j,l,o⟩;obtain⟨D,E,F,G⟩:=dg g;have aa:=(MH.1 g).1;clear hv ho hz eE A B C j l o X;go_enter Tryz.func14,Tryz.ntmps14;go_wp2_with fail;rw[<-I];clear I D E F G;refine (vt _ _ u k z dn L O _ (T.up a) K (U.up a)).mono ?_;rintro e w1 ⟨rfl,r⟩;have b:=qJ a r;have i:=qK r g;clear r
 cases P with
 | false =>
  have v:Nf.dW (pl L) O dn=4:=by unfold Nf.dW;rw[t.out.1];rfl
  rw[v];clear v;go_wp2;go_ret;exact⟨rfl,b⟩
 | true =>
  have v:Nf.dW (pl L) O dn=0:=by unfold Nf.dW;rw[t.out.1];rfl
  rw[v];clear v;obtain⟨D,E,F,G⟩:=dg i;have ab:=(MH.1 i).1;go_wp2_with fail;clear D E F G;refine (Es.du _ Z _ (J.up b)).mono ?_;rintro e w2 ⟨rfl,s⟩;rw[t.out.2.1];have f:=qJ b s;have M:=qK s i;clear s
  cases Q with
  | false =>
   rw[ME qd];go_wp2;go_ret;exact⟨rfl,f⟩
  | true =>
   rw[MC rfl];have N:Hid (∀ x∈Z,x.2.2.size<=1048576):=λx R=>by
    have h:=((Es.Se.vp Z).1 t.out.2.1).2.1 x R;have:=h.2.2;omega
   obtain⟨D,E,F,G⟩:=dg M;go_wp2_with fail;clear D E F G;refine (Lu _ Z Sh.oX _ (J.up f) (λx R V _=>zQ x V (N x R))).mono ?_;rintro e w3 ⟨rfl,H⟩;rw[t.out.2.2];have y:=qJ f H;clear H
   cases r3 with
   | false =>
    go_wp2
    all_goals (go_ret;exact⟨qs,y⟩)
   | true =>
    go_wp2
    all_goals (go_ret;exact⟨qs,y⟩)
abbrev DH (v cl rq:Int) (b:ByteArray):Value:=.agg #[.int .i64 v,.int .i64 cl,.int .i64 rq,.string b]
abbrev yP (v cl rq:Int) (b:ByteArray):Obj:=.cells #[.int .i64 v,.int .i64 cl,.int .i64 rq,.string b] 32
def tR:fY (Int × Int × Int × ByteArray):=⟨4,λx=>[.int .i64 x.1,.int .i64 x.2.1,.int .i64 x.2.2.1,.string x.2.2.2],λ_=>rfl,λx u hu=>by
 simp at hu;rcases hu with rfl | rfl | rfl | rfl <;> rfl⟩
theorem iR {w:World}{A:Nat}{v cl rq:Int}{b:ByteArray}(h:w.1[A]?=some (yP v cl rq b)) :
  w.cell? ⟨A,0,none⟩=some (.int .i64 v)/\w.cell? ⟨A,1,none⟩=some (.int .i64 cl)/\w.cell? ⟨A,2,none⟩=some (.int .i64 rq)/\w.cell? ⟨A,3,none⟩=some (.string b):=by
 refine⟨?_,?_,?_,?_⟩ <;> simp[World.cell?,h]
structure Ms (S:Nat->Prop) (w:World) (vi vo vz:Value) (L:List Rw) (x:Sh.iF):Prop where
 tab:cD S w vi L
 eq:pl L = x.L
 ok:Sp.m6 L
 ops:At Os.EO S w vo x.O
 jB:At Es.ES S w vz x.Z
section
variable {S T:Nat->Prop} {w w':World} {vi vo vz:Value} {L:List Rw} {x:Sh.iF}
theorem Ms.up (h:Ms S w vi vo vz L x)(hb:Bw w w'):Ms S w' vi vo vz L x:=⟨h.tab.up hb,h.eq,h.ok,h.ops.up hb,h.jB.up hb⟩
theorem Ms.imp (h:Ms S w vi vo vz L x)(hi:∀ b,S b->b<w.1.size->T b):Ms T w vi vo vz L x:=⟨h.tab.imp hi,h.eq,h.ok,h.ops.imp hi,h.jB.imp hi⟩
theorem Ms.low (h:Ms S w vi vo vz L x):Ms (λb=>S b/\b<w.1.size) w vi vo vz L x:=h.imp λ_ a c=>⟨a,c⟩
theorem Ms.dn (h:Ms S w vi vo vz L x)(d):Ms S w vi vo vz L { x with dn:=d }:=⟨h.tab,h.eq,h.ok,h.ops,h.jB⟩
theorem Ms.set (h:Ms S w vi vo vz L x){A:Nat}(hA:¬ S A)(o)(vs):Ms S (w.setCells A o vs) vi vo vz L x:=⟨df hA vs o w h.tab,h.eq,h.ok,dB hA vs o w h.ops,dB hA vs o w h.jB⟩
theorem Ms.mP (h:Ms S w vi vo vz L x):(∃ a n c,vi=.slice a n c)/\(∃ a n c,vo=.slice a n c)/\∃ a n c,vz=.slice a n c:=by
 obtain⟨a,c,b,-,-⟩:=h.tab.open;obtain⟨g,i,d,-,-⟩:=h.ops.open;obtain⟨j,k,f,-,-⟩:=h.jB.open;exact⟨⟨_,_,_,b⟩,⟨_,_,_,d⟩,_,_,_,f⟩
theorem Ms.none (S)(w):Ms S w (.slice none 0 0) (.slice none 0 0) (.slice none 0 0) [] Sh.EN:=⟨⟨At.nil,λr a=>(by cases a)⟩,rfl,λr a=>(by cases a),At.nil,At.nil⟩
end
theorem cK {w w':World}{A:Nat}{o:Obj}(h:w.1[A]?=some o)(hb:Bw w w'):w'.1[A]?=some o:=(hb.block _ (qL h)).trans h
theorem sB (lo x hi)(w):Calls Tryz.prog 31 #[.int .i64 lo,.int .i64 x,.int .i64 hi] w λe w'=>e=.returned (.bool (decide (lo<=x/\x<=hi)))/\w'=w:=by
 by_cases h1:lo<=x
 ·by_cases h2:x<=hi
  ·rw[MT (show lo<=x/\x<=hi from⟨h1,h2⟩)];go_enter Tryz.func31,Tryz.ntmps31;go_wp2;go_ret;exact⟨rfl,rfl⟩
  ·rw[MO (show ¬ (lo<=x/\x<=hi) from λh=>h2 h.2)];go_enter Tryz.func31,Tryz.ntmps31;go_wp2;go_ret;exact⟨rfl,rfl⟩
 ·rw[MO (show ¬ (lo<=x/\x<=hi) from λh=>h1 h.1)];go_enter Tryz.func31,Tryz.ntmps31;go_wp2;go_ret;exact⟨rfl,rfl⟩
end Go.Proofs.YtiifhfmekbhlnaaGreat
namespace Go.Proofs.YtiifhfmekbhlnaaGreat.Es
open ChangeShapes WideShapes ChangeAt RowKit Deep
abbrev Mu (f b c:Nat):Value:=.func (Fn.func f) #[] #[.pointer (some ⟨b,0,none⟩),.pointer (some ⟨c,0,none⟩)]
theorem below_drewN (w)(q):Bw w (w.drewN q):=⟨rfl,rfl,rfl,qn,λ_ _=>rfl⟩
theorem ug (v)(l:List fB)(c:Int)(k P:Nat)(b d:Nat)(w:World)(hv:ey ES w v l)(hk:k<l.length)(hP:∀ x,l[k]?=some x->(c<=x.1 ↔ P<=k))(h0:w.cell? ⟨b,0,none⟩=some v)(h1:w.cell? ⟨d,0,none⟩=some (.int .i64 c)) :
  Calls Tryz.prog 54 #[.int .i64 k,.pointer (some ⟨b,0,none⟩),.pointer (some ⟨d,0,none⟩)] w λe w'=>e=.returned (.bool (decide (P<=k)))/\Bw w w':=by
 obtain⟨q,j,rfl,m,f⟩:=hv.open;clear hv;unfold maxLen at m;obtain⟨x,a⟩:∃ x,l[k]?=some x:=⟨_,MF hk⟩;obtain⟨r,o,rfl,-,p,g⟩:=f k x a;obtain⟨s,t,u⟩:=kC (MJ _ _) p g;have h:Hid (decide (c<=x.1)=decide (P<=k)):=decide_eq_decide.2 (hP x a);have i:(k:Int)<(l.length:Int):=qo
 clear g f a hP;rw[<-h.out];generalize l.length=n at *;go_enter Tryz.func54,Tryz.ntmps54;go_wp2_with fail
 go_quiet (fail)
 go_wp2;go_ret;exact⟨rfl,below_drewN w _⟩
theorem uG (v )(l )(c )(b d )(w )(hv : ey ES w v l)(hs : Se.gG l)(hn6 : l.length ≤ 6)(h0 : w.cell? ⟨b, 0, none⟩=some v)(h1 : w.cell? ⟨d, 0, none⟩=some (.int .i64 c)) :
  Calls Tryz.prog 53 #[.int .i64 l.length,Mu 54 b d] w λe w'=>e=.returned (.int .i64 (Se.gy l c))/\Bw w w':=by
 have J:=hH hv;have E:Hid (w.cell? ⟨b,0,none⟩=some v/\w.cell? ⟨d,0,none⟩=some (.int .i64 c)):=⟨h0,h1⟩;have o:=Se.yG l c;have u:Hid (∀ k x,l[k]?=some x->(c<=x.1 ↔ Se.gy l c<=k)):=λk x h=>Se.xG l c hs k x h
 obtain⟨n,z⟩:=qE l.length;obtain⟨P,q⟩:=qE (Se.gy l c);rw[z]at o hn6 |-;rw[q]at o u |-;have F:=hH z;clear z q hv hs h0 h1;go_enter Tryz.func53,Tryz.ntmps53;go_wp2;go_loopw [5,6] (λi j wr=>∃ a f:Nat,i=.int .i64 a/\j=.int .i64 f/\a<=P/\P<=f/\f<=n/\Hid (Bw w wr)) (λi j _=>(intOf j).toNat-(intOf i).toNat)
 case atStart=>exact⟨0,n,rfl,rfl,MV _,o,qn,MJ _ _⟩
 case round =>
  obtain⟨a,f,rfl,rfl,A,B,C,m⟩:=hrel
  by_cases hlt:a<f
  ·have G : (a : Int)<(f : Int) := by omega
   obtain⟨h,I,K,L⟩:∃ h:Nat,((a:Int)+f) / 2=h/\a<=h/\h<f:=⟨(a+f) / 2,qo,qo,qo⟩;have H:=hH I;clear I;have r:=hH<|J.out.up m;have g:Hid (wr.cell? ⟨b,0,none⟩=some v/\wr.cell? ⟨d,0,none⟩=some (.int .i64 c)):=⟨cC E.out.1 m,cC E.out.2 m⟩
   by_cases q:P<=h
   ·have y : Hid (decide (P ≤ h)=true) := MT q
    go_wp2_with fail;rw[H.out];refine (ug v l c h P b d _ r (by rw[F.out];omega) (u h) g.out.1 g.out.2).mono ?_;rintro e D ⟨rfl,s⟩;rw[y.out];have p:=qJ m s;clear s;go_wp2
    go_roundw
    case rel=>exact⟨a,h,rfl,rfl,A,q,qo,p⟩
    case measure=>simp[intOf];omega
   ·have y : Hid (decide (P ≤ h)=false) := MO q
    go_wp2_with fail;rw[H.out];refine (ug v l c h P b d _ r (by rw[F.out];omega) (u h) g.out.1 g.out.2).mono ?_;rintro e D ⟨rfl,s⟩;rw[y.out];have p:=qJ m s;clear s;go_wp2
    go_roundw
    case rel=>exact⟨h+1,f,by go_num,rfl,qo,B,C,p⟩
    case measure=>simp[intOf];omega
  ·obtain rfl : a=P := by omega
   obtain rfl:a=f:=qo
   go_wp2;go_ret;exact⟨rfl,m⟩
theorem Hm {w:World}{A:Nat}{v:Value}{t:TypeId}(h:w.1[A]?=some (.cells #[v] t)):w.cell? ⟨A,0,none⟩=some v:=by simp[World.cell?,h]
theorem fV (v )(l )(c )(w )(hv : ey ES w v l)(hs : Se.gG l)(hn6 : l.length ≤ 6) :
  Calls Tryz.prog 33 #[v,.int .i64 c] w λe w'=>e=.returned (.tuple #[.int .i64 (Se.gy l c),.bool (Se.gu l c).isSome])/\Bw w w':=by
 have B:=hH hs;have t:=Se.yG l c;obtain⟨m,d,rfl,J,K⟩:=hv.open;obtain⟨n,E⟩:=qE l.length;obtain⟨P,F⟩:=qE (Se.gy l c);rw[E]at t hn6 hv J |-;rw[F]at t |-;have o:=hH E;have u:=hH F;have M:=hH K;obtain⟨W,r⟩:=qF ((w.alloc (.cells #[.slice m n d] 27)).alloc (.cells #[.int .i64 c] 3));have g:=hH<|show Bw w W by rw[r];exact (qG _ _).alloc qs _
 have H:=hH<|show W.cell? ⟨w.heap.size,0,none⟩=some (.slice m n d)/\W.cell? ⟨w.heap.size+1,0,none⟩=some (.int .i64 c) by
  rw[r];constructor
  ·rw[dh qs]
   exact Hm (MD w _)
  ·have := MD (w.alloc (.cells #[.slice m n d] 27)) (.cells #[.int .i64 c] 3)
   rw[show (w.alloc (.cells #[.slice m n d] 27)).1.size=w.1.size+1 by simp]at this;exact Hm this
 have I:=hH<|hv.up g;have p:=H.out.1;have q:=H.out.2;clear E F hv K hs;unfold maxLen at J
 by_cases hlt:P<n
 ·obtain⟨x,i⟩ : ∃ x,l[P]?=some x := ⟨_,MF (by rw[o.out];exact hlt)⟩
  obtain⟨b,A,rfl,-,R,L⟩:=M.out P x i;have k:=hH<|show (Se.gu l c).isSome=(x.1==c) by
   cases a:Se.gu l c with
   | none =>
    have:=Se.Fc a (x:=x) (by rw[u.out];exact i);simpa using this
   | some y =>
    have C:=Se.mw B a;rw[u.out,i]at C
    cases C
    have:=(Se.jf a).2;simp[this]
  have D:Hid (∀ G,Bw w G->G.cell? ⟨b,A+P*3,none⟩=some (.int .i64 x.1)):=λG h=>(kC h R L).1
  have z:(P:Int)<(n:Int):=qo
  clear L i;rw[k.out];go_enter Tryz.func33,Tryz.ntmps33;go_wp2_with fail;rw[<-r];clear r;have a:=uG (.slice (some ⟨b,A,none⟩) n d) l c w.1.size (w.1.size+1) W I B (by rw[o.out];exact hn6) p q;rw[o.out,u.out]at a;refine a.mono ?_;clear a;rintro e s ⟨rfl,j⟩;have f:=qJ g j;have N:=cC p j;have O:=cC q j;have S:=D.out s f;clear j p q;have Q:=MT z;go_wp2_with fail
  go_quiet (fail)
  go_wp2
  go_ret2
  exact⟨rfl,f.trans ((below_drewN s _).mono f.size)⟩
 ·obtain rfl : P=n := by omega
  have k:=hH<|show (Se.gu l c).isSome=false by
   cases a:Se.gu l c with
   | none=>rfl
   | some y =>
    have C:=(MN.1 (Se.mw B a)).1;rw[u.out,o.out]at C;omega
  have Q:decide ((P:Int)<(P:Int))=false:=qs
  rw[k.out];go_enter Tryz.func33,Tryz.ntmps33;go_wp2_with fail;rw[<-r];clear r;have a:=uG (.slice m P d) l c w.1.size (w.1.size+1) W I B (by rw[o.out];exact hn6) p q;rw[o.out,u.out]at a;refine a.mono ?_;clear a;rintro e s ⟨rfl,j⟩;have f:=qJ g j;have N:=cC p j;have O:=cC q j;clear j p q;go_wp2_with fail
  go_quiet (fail)
  go_wp2
  go_ret2
  exact⟨rfl,f.trans ((below_drewN s _).mono f.size)⟩
theorem kS {P:Program}{w w':World}{ops:Array Oper}{rest:List Oper}{o:Oper}{a:Act}{Q:Exit->Act->World->Prop}(hgd:o.guard=none)(s x:Operand)(t tn:TypeId)(ho:o.op=.call { callee:=.builtin .append,args:=#[s,x],argTypes:=#[t,tn] }){v xv v':Value}(hv:a.eval s=v)(hxv:a.eval x=xv)(hr:∀ ty,(Builtin.append_ #[t,tn] ty #[v,xv]).run P w=.ok v' w')(h:wpList P ops Q rest (a.put o.dst v') w'):wpList P ops Q (o::rest) a w :=
 OF hgd λ_ b=>by
  unfold Oper.wp execOp;simp only[ho,resolve,invoke,builtin,Sem.run_bind,Sem.run_pure,Result.andThen_ok,List.map_toArray,List.map_cons,List.map_nil,hv,hxv,hr];exact b _ _ h
theorem nG (n:Nat)(hn:n<=4398046511104) (w:World):Calls Tryz.prog 90 #[.slice none 0 0,.int .i64 n] w λe w'=>∃ v,e=.returned v/\Row ES w' w.heap.size 47 v []/\Bw w w':=by
 by_cases h0:n=0
 ·subst h0
  go_enter Tryz.func90,Tryz.ntmps90;go_wp2;go_ret;exact⟨_,rfl,Row.nil _ _ _ _,MJ _ _⟩
 ·obtain⟨p, m, g, h, i⟩ := NQ JL
  have a:=λl=>Lib.run_append_nil_zeros (P:=Tryz.prog) w 27 3 l 47 p _ .i64 .i64 Tryz.underlying27 Tryz.underlying3 m g n (by omega) (by rw[h];decide) (by omega) (by rw[i];omega)
  have j:=grownCap_ge w n 0 47;have c:grownCap w n 0 47<=maxLen:=grownCap_le_maxLen w n 0 47 (by unfold maxLen;omega);have b:(Builtin.zeroCells (Value.agg #[.int .i64 0,.int .i64 0,.string ⟨#[]⟩]).cells n++Builtin.zeroCells (Value.agg #[.int .i64 0,.int .i64 0,.string ⟨#[]⟩]).cells (grownCap w n 0 47-n)).size=grownCap w n 0 47*3:=by
   rw[Array.size_append,OW,OW,show (Value.agg #[.int .i64 0,.int .i64 0,.string ⟨#[]⟩]).cells.size=3 from rfl];omega
  generalize (Builtin.zeroCells (Value.agg #[.int .i64 0,.int .i64 0,.string ⟨#[]⟩]).cells n++Builtin.zeroCells (Value.agg #[.int .i64 0,.int .i64 0,.string ⟨#[]⟩]).cells (grownCap w n 0 47-n))=cur at a b;generalize grownCap w n 0 47=C at a j c b;have o:0<(n:Int):=by omega
  have d:Hid (Row ES (w.drew.alloc (.cells cur 47)) w.1.size 47 (.slice (some ⟨w.1.size,0,none⟩) 0 C) []):=.inr ⟨w.1.size,C,cur,rfl,qn,MD w.drew _,MV _,c,by rw[b];exact qn,by simp[fY.flat]⟩;unfold maxLen at c;have f:=hH a;clear m g h i h0 b a;go_enter Tryz.func90,Tryz.ntmps90
  go_wp2_with (at_builtin;refine kS rfl _ _ 27 3 rfl rfl rfl f ?_)
  go_ret;exact⟨_,rfl,d,⟨rfl,rfl,rfl,qs,λk q=>ML w.drew _ k q⟩⟩
theorem mV (g)(v1 v2 v3)(l1 l2 l3)(w)(hg:g<w.1.size)(c0:w.cell? ⟨g,0,none⟩=some v1)(c1:w.cell? ⟨g,1,none⟩=some v2)(c2:w.cell? ⟨g,2,none⟩=some v3)(h1:ey ES w v1 l1)(h2:ey ES w v2 l2)(h3:ey ES w v3 l3)(hl:l1.length+l2.length+l3.length<=2199023255552) :
  Calls Tryz.prog 58 #[.slice (some ⟨g,0,none⟩) 3 3] w λe w'=>∃ u,e=.returned u/\Row ES w' w.1.size 47 u (l1++l2++l3)/\Bw w w':=by
 have J:=hH<|h1.imp λb _ G=>G
 have X:=hH<|h2.imp λb _ G=>G
 have Y:=hH<|h3.imp λb _ G=>G
 obtain⟨a1,q1,rfl,-,-⟩:=h1.open;obtain⟨a2,q2,rfl,-,-⟩:=h2.open;obtain⟨a3,q3,rfl,-,-⟩:=h3.open;clear h1 h2 h3;obtain⟨z,j⟩:=qE l1.length;obtain⟨A,l⟩:=qE l2.length;obtain⟨B,m⟩:=qE l3.length;rw[j,l,m]at hl;rw[j]at c0 J;rw[l]at c1 X;rw[m]at c2 Y;have t:Hid (l1.length=z/\l2.length=A/\l3.length=B):=⟨j,l,m⟩;clear j l m;obtain⟨T,U,n,o,p⟩:=NQ JL;go_enter Tryz.func58,Tryz.ntmps58;go_wp2;refine OV 4 ?_;rw[NR];go_wp2;rw[NR];go_wp2;rw[NR];go_wp2;rw[NR];go_wp2_with fail;rw[show (z:Int)+(A:Int)+(B:Int)=((z+A+B:Nat):Int) by omega];refine (nG (z+A+B) qo _).mono ?_;rintro e V ⟨u1,rfl,C,a⟩;have K:=hH a;have v:=hH C;have d0:=dG c0 a hg;have L:=hH<|J.out.up a;have M:=a.size;clear a C J;go_wp2;refine OV 4 ?_;rw[NR]
 go_wp2_with (at_builtin;refine eF _ rfl _ _ 27 rfl ES (λb=>b<w.1.size) w.1.size 47 T _ 32 Tryz.underlying27 U n o p rfl _ [] rfl v _ l1 rfl L (by have:=t.out;unfold maxLen;simp only[List.length_nil];omega) (by have:=t.out;simp only[List.length_nil];omega) qo ?_;intro Z I c D q)
 have h:=hH<|K.out.grown D M (λk H=>(v.lt k H).1);have x:=hH<|show Row ES I w.heap.size 47 Z l1 by simpa using c
 have d1:=dG c1 h hg;have N:=hH<|X.out.up h;have O:=h.out.size;clear c D q d0;rw[NR]
 go_wp2_with (at_builtin;refine eF _ rfl _ _ 27 rfl ES (λb=>b<w.1.size) w.1.size 47 T _ 32 Tryz.underlying27 U n o p rfl _ l1 rfl x _ l2 rfl N (by have:=t.out;unfold maxLen;omega) (by have:=t.out;omega) qo ?_;intro v8 W d E r)
 have i:=hH<|h.out.grown E O (λk H=>(x.lt k H).1);have y:=hH d;have d2:=dG c2 i hg;have P:=hH<|Y.out.up i;have Q:=i.out.size;clear d E r d1;rw[NR]
 go_wp2_with (at_builtin;refine eF _ rfl _ _ 27 rfl ES (λb=>b<w.1.size) w.1.size 47 T _ 32 Tryz.underlying27 U n o p rfl _ (l1++l2) rfl y _ l3 rfl P (by have:=t.out;unfold maxLen;rw[MW];omega) (by have:=t.out;rw[MW];omega) qo ?_;intro v9 w9 f F s)
 have R:=hH<|i.out.grown F Q (λk H=>(y.lt k H).1);have S:=hH f;clear f F s;rw[NR];go_wp2;go_ret;exact⟨_,rfl,S,R⟩
theorem _root_.Go.Proofs.YtiifhfmekbhlnaaGreat.At.Ju {α : Type}{E : fY α}{S : Nat → Prop}{w : World}{ao : Option Addr}{m cap : Nat}{l : List α}(h : At E S w (.slice ao m cap) l){lo hi : Nat}(h1 : lo ≤ hi)(h2 : hi ≤ m) : At E S w (sliced ao lo hi cap E.sz) ((l.take hi).drop lo) := by
 by_cases he:hi=lo
 ·have n : (l.take hi).drop lo=[] := by
   apply MX
   simp;omega
  unfold sliced;rw[n,show hi-lo=0 by omega];exact .inl ⟨_,_,rfl,rfl⟩
 ·rcases h with⟨ao,c,d,rfl⟩ | ⟨b,i,s,d,p,q,t,v,x,r⟩
  ·simp only[Value.slice.injEq]at d
   omega
  ·simp only[Value.slice.injEq]at d
   obtain⟨rfl,rfl,rfl⟩:=d;have a:((l.take hi).drop lo).length=hi-lo:=qt
   refine .inr ⟨b,i+lo*E.sz,cap-lo,?_,p,q,qo,qo,qo,λj u k=>?_⟩
   ·rw[a]
    unfold sliced;rw[ME qo];simp[WideShapes.add_plain]
   ·have e : l=l.take lo++((l.take hi).drop lo++l.drop hi) := by
     have o:l.take lo=(l.take hi).take lo:=by rw[List.take_take,OB h1]
     rw[<-Nq,o,Nj,Nj]
    have f:=(MN.1 k).1;have g:(E.flat (l.take lo)).length=lo*E.sz:=by rw[E.eh,M5,OB qo]
    have:=r (lo*E.sz+j) u (by
     rw[e,E.fo,E.fo,O9 qo,g,show lo*E.sz+j-lo*E.sz=j by omega,Oq f];exact k)
    rwa [<-NC]at this
theorem mi (w)(a)(m cap k)(hk:k<=cap):(Instr.slice 27 (.slice a m cap) none (some (.int .i64 (k:Int))) none).run Tryz.prog w=.ok (sliced a 0 k cap ES.sz) w:=by
 rw[run_slice_h (P:=Tryz.prog) w 27 a m cap Tryz.underlying27 .i64 (k:Int) qo qo];rfl
theorem kF (w)(a)(m cap k)(hk:k<=m):(Instr.slice 27 (.slice a m cap) (some (.int .i64 (k:Int))) none none).run Tryz.prog w=.ok (sliced a k m cap ES.sz) w:=by
 rw[run_slice_l (P:=Tryz.prog) w 27 a m cap Tryz.underlying27 .i64 (k:Int) qo qo,show ((k:Int)).toNat=k by omega];rfl
theorem _root_.Go.Proofs.YtiifhfmekbhlnaaGreat.Row.CH {α:Type}{E:fY α}{w:World}{B:Nat}{e:TypeId}{v:Value}{ls:List α}(h:Row E w B e v ls):∃ p n c,v=.slice p n c:=by
 obtain⟨p,c,h⟩:=h.slice;exact⟨p,_,c,h⟩
theorem _root_.Go.Proofs.YtiifhfmekbhlnaaGreat.At.JN {α:Type}{E:fY α}{S:Nat->Prop}{w:World}{a:Option Addr}{m cap:Nat}{l:List α}(h:At E S w (.slice a m cap) l)(h0:0<m):m<=cap/\cap<=maxLen:=by
 rcases h with⟨f,c,b,rfl⟩ | ⟨g,d,i,b,j,k,n,o,p,q⟩
 ·simp only[Value.slice.injEq]at b
  omega
 ·simp only[Value.slice.injEq]at b
  omega
theorem mB (v )(l )(c r )(w )(hv : ey ES w v l) :
    Calls Tryz.prog 18 #[v,.int .i64 c,.int .i64 r] w λe w'=>e=.returned (.tuple #[.int .i64 (Se.fp l c r),.string (Se.told l c r),.int .i64 (Se.fu l c r)])/\Below w.1.size w w':=by
  obtain⟨ao,cap,rfl,hm,hx⟩:=hv.open
  unfold maxLen at hm
  obtain⟨n,hn⟩:∃ n,l.length=n:=⟨_,rfl⟩
  rw[hn]at hm hv |-
  have HN:=hH hn
  have HX:=hH hx
  have HV:=hH hv
  clear hn hx hv
  by_cases hr:Se.fu l c r=0
  · have HO : Hid (Se.ok l=true) := by
      rcases Se.tH l c r with ⟨_,_,h,_⟩ | ⟨_,_,h,_⟩ | ⟨h,h2⟩
      · exact h
      · exact h
      · omega
    have HR:=hH hr
    have hn6:=Se.kl HO
    rw[HN.out]at hn6
    rw[hr]
    obtain⟨P,hp⟩:∃ P,Se.gy l c=P:=⟨_,rfl⟩
    have HP:=hH hp
    clear hp
    cases hs:Se.gu l c with
    | none =>
      obtain⟨hw,ht⟩:=Se.kO hr hs
      have HI:=hH<|show (Se.gu l c).isSome = false by rw[hs];rfl
      rw[ht]
      by_cases h6:n=6
      · rw[MC (HN.trans h6)]at hw
        rw[hw]
        subst h6
        clear hr hs hw ht
        go_enter Tryz.func18,Tryz.ntmps18
        go_wp2_with fail
        refine (gN _ l c r _ HV).mono ?_
        rintro e w1 ⟨rfl,hb⟩
        rw[HR.out]
        have HB1:=hH hb
        have HV1:=hH<|HV.out.up hb
        clear hb
        go_wp2_with fail
        refine (fV _ l c _ HV1 (Se.fh HO) (Se.kl HO)).mono ?_
        rintro e w2 ⟨rfl,hb⟩
        rw[HP.out,HI.out]
        have HB2:=qJ HB1 hb
        clear hb
        go_wp2
        go_ret3
        exact⟨rfl,HB2⟩
      · rw[ME (by rw[HN.out];exact h6)]at hw
        rw[hw]
        have h6':((n:Int)==6)=false:=by rw[MQ];omega
        clear hr hs hw ht h6
        go_enter Tryz.func18,Tryz.ntmps18
        go_wp2_with fail
        refine (gN _ l c r _ HV).mono ?_
        rintro e w1 ⟨rfl,hb⟩
        rw[HR.out]
        have HB1:=hH hb
        have HV1:=hH<|HV.out.up hb
        clear hb
        go_wp2_with fail
        refine (fV _ l c _ HV1 (Se.fh HO) (Se.kl HO)).mono ?_
        rintro e w2 ⟨rfl,hb⟩
        rw[HP.out,HI.out]
        have HB2:=qJ HB1 hb
        clear hb
        go_wp2
        go_ret3
        exact⟨rfl,HB2⟩
    | some x =>
      obtain⟨hw,ht⟩:=Se.kJ hr hs
      have hxk:=Se.mw (Se.fh HO) hs
      rw[HP.out]at hxk
      have hlt:P<n:=by have:=(MN.1 hxk).1;rwa [HN.out]at this
      have HI:=hH<|show (Se.gu l c).isSome = true by rw[hs];rfl
      obtain⟨b,off,rfl,-,hB,hc⟩:=HX.out P x hxk
      have HCC:Hid (∀ wr,Below w.1.size w wr->wr.cell? ⟨b,off+P*3+1,none⟩=some (.int .i64 x.2.1)/\wr.cell? ⟨b,off+P*3+2,none⟩=some (.string x.2.2)):=λwr h=>(kC h hB hc).2
      have hlt':(P:Int)<(n:Int):=qo
      clear hc hxk
      by_cases g1:x.2.1<r
      · rw[MC g1]at hw
        rw[ME qo]at ht
        rw[hw,ht]
        clear hr hs hw ht
        go_enter Tryz.func18,Tryz.ntmps18
        go_wp2_with fail
        refine (gN _ l c r _ HV).mono ?_
        rintro e w1 ⟨rfl,hb⟩
        rw[HR.out]
        have HB1:=hH hb
        have HV1:=hH<|HV.out.up hb
        clear hb
        go_wp2_with fail
        refine (fV _ l c _ HV1 (Se.fh HO) (Se.kl HO)).mono ?_
        rintro e w2 ⟨rfl,hb⟩
        rw[HP.out,HI.out]
        have HB2:=qJ HB1 hb
        clear hb
        obtain⟨c1,c2⟩:=HCC.out _ HB2
        go_wp2
        go_ret3
        exact⟨rfl,HB2⟩
      · by_cases g2 : r<x.2.1
        · rw[ME g1,MC g2]at hw
          rw[ME qo]at ht
          rw[hw,ht]
          clear hr hs hw ht
          go_enter Tryz.func18,Tryz.ntmps18
          go_wp2_with fail
          refine (gN _ l c r _ HV).mono ?_
          rintro e w1 ⟨rfl,hb⟩
          rw[HR.out]
          have HB1:=hH hb
          have HV1:=hH<|HV.out.up hb
          clear hb
          go_wp2_with fail
          refine (fV _ l c _ HV1 (Se.fh HO) (Se.kl HO)).mono ?_
          rintro e w2 ⟨rfl,hb⟩
          rw[HP.out,HI.out]
          have HB2:=qJ HB1 hb
          clear hb
          obtain⟨c1,c2⟩:=HCC.out _ HB2
          go_wp2
          go_ret3
          exact⟨rfl,HB2⟩
        · rw[ME g1,ME g2]at hw
          have ge:r=x.2.1:=qo
          rw[MC ge]at ht
          rw[hw,ht]
          clear hr hs hw ht ge
          go_enter Tryz.func18,Tryz.ntmps18
          go_wp2_with fail
          refine (gN _ l c r _ HV).mono ?_
          rintro e w1 ⟨rfl,hb⟩
          rw[HR.out]
          have HB1:=hH hb
          have HV1:=hH<|HV.out.up hb
          clear hb
          go_wp2_with fail
          refine (fV _ l c _ HV1 (Se.fh HO) (Se.kl HO)).mono ?_
          rintro e w2 ⟨rfl,hb⟩
          rw[HP.out,HI.out]
          have HB2:=qJ HB1 hb
          clear hb
          obtain⟨c1,c2⟩:=HCC.out _ HB2
          go_wp2_with fail
          go_quiet (fail)
          go_wp2
          go_ret3
          exact⟨rfl,HB2.trans ((below_drewN _ _).mono HB2.size)⟩
  · obtain⟨hw,ht⟩ := Se.yY hr
    rw[hw,ht]
    obtain⟨a,ha⟩:∃ a,Se.fu l c r=a:=⟨_,rfl⟩
    rw[ha]at hr |-
    have HA:=hH ha
    have hne:(a != 0)=true:=by simpa using hr
    clear hr ha hw ht
    go_enter Tryz.func18,Tryz.ntmps18
    go_wp2_with fail
    refine (gN _ l c r _ HV).mono ?_
    rintro e w1 ⟨rfl,hb⟩
    rw[HA.out]
    go_wp2
    go_ret3
    exact⟨rfl,hb⟩
theorem lO (v)(l)(c r)(s)(w)(hv:ey ES w v l) :
    Calls Tryz.prog 57 #[v,.int .i64 c,.int .i64 r,.string s] w λe w'=>e=.returned (.int .i64 (Se.dM l c r s))/\Below w.1.size w w':=by
  have HV:=hH hv
  clear hv
  obtain⟨t,ht⟩:∃ t,Se.told l c r=t:=⟨_,rfl⟩
  have HT:=hH ht
  clear ht
  rcases Se.wY l c r s with ⟨he,hr,hs,hw⟩ | ⟨he,hr,hs⟩ | ⟨he,hr,hs,hw⟩ | ⟨he,hr,hs,hw,hw1⟩ | ⟨he,hr⟩
  · have HR : Hid (Se.fu l c r=0 ∧ Se.fp l c r=1) := ⟨hr,hw⟩
    have hs':¬ (8192:Int)<(s.size:Int):=qo
    rw[he]
    clear he hr hw
    go_enter Tryz.func57,Tryz.ntmps57
    go_wp2_with fail
    refine (mB _ l c r _ HV).mono ?_
    rintro e w1 ⟨rfl,hb⟩
    rw[HR.out.1,HR.out.2,HT.out]
    go_wp2
    go_ret
    exact⟨rfl,hb⟩
  · obtain⟨a,ha⟩ : ∃ a,Se.fp l c r=a := ⟨_,rfl⟩
    have HR:Hid (Se.fu l c r=0/\Se.fp l c r=a):=⟨hr,ha⟩
    have hs':(8192:Int)<(s.size:Int):=qo
    rw[he]
    clear he hr ha
    go_enter Tryz.func57,Tryz.ntmps57
    go_wp2_with fail
    refine (mB _ l c r _ HV).mono ?_
    rintro e w1 ⟨rfl,hb⟩
    rw[HR.out.1,HR.out.2,HT.out]
    go_wp2
    go_ret
    exact⟨rfl,hb⟩
  · have HR : Hid (Se.fu l c r=0 ∧ Se.fp l c r=4) := ⟨hr,hw⟩
    have hs':¬ (8192:Int)<(s.size:Int):=qo
    rw[he]
    clear he hr hw
    go_enter Tryz.func57,Tryz.ntmps57
    go_wp2_with fail
    refine (mB _ l c r _ HV).mono ?_
    rintro e w1 ⟨rfl,hb⟩
    rw[HR.out.1,HR.out.2,HT.out]
    go_wp2
    go_ret
    exact⟨rfl,hb⟩
  · obtain⟨a,ha⟩ : ∃ a,Se.fp l c r=a := ⟨_,rfl⟩
    rw[ha]at hw hw1
    have HR:Hid (Se.fu l c r=0/\Se.fp l c r=a):=⟨hr,ha⟩
    have hs':¬ (8192:Int)<(s.size:Int):=qo
    have h4:=MQ.2 hw
    have h1:(a != 1)=true:=by simpa using hw1
    rw[he]
    clear he hr ha hw hw1
    go_enter Tryz.func57,Tryz.ntmps57
    go_wp2_with fail
    refine (mB _ l c r _ HV).mono ?_
    rintro e w1 ⟨rfl,hb⟩
    rw[HR.out.1,HR.out.2,HT.out]
    go_wp2
    go_ret
    exact⟨rfl,hb⟩
  · obtain⟨a,ha⟩ : ∃ a,Se.fu l c r=a := ⟨_,rfl⟩
    obtain⟨b,hbb⟩:∃ b,Se.fp l c r=b:=⟨_,rfl⟩
    rw[ha]at he hr
    have HR:Hid (Se.fu l c r=a/\Se.fp l c r=b):=⟨ha,hbb⟩
    have hne:(a != 0)=true:=by simpa using hr
    rw[he]
    clear he hr ha hbb
    go_enter Tryz.func57,Tryz.ntmps57
    go_wp2_with fail
    refine (mB _ l c r _ HV).mono ?_
    rintro e w1 ⟨rfl,hb⟩
    rw[HR.out.1,HR.out.2,HT.out]
    go_wp2
    go_ret
    exact⟨rfl,hb⟩
end Go.Proofs.YtiifhfmekbhlnaaGreat.Es
namespace Go.Proofs.YtiifhfmekbhlnaaGreat
open ChangeShapes WideShapes ChangeAt RowKit Deep It
theorem xR (w)(o p):((w.alloc o).alloc p).1[w.1.size]?=some o/\((w.alloc o).alloc p).1[w.1.size+1]?=some p/\Bw w ((w.alloc o).alloc p):=by
 refine⟨(ML _ _ _ qs).trans (MD _ _),?_,(qG _ _).alloc qs _⟩;have h:=MD (w.alloc o) p;simpa using h
theorem AN {S:Nat->Prop}(vi vo vz)(L)(x:Sh.iF)(v cl rq)(b)(w)(h:Ms S w vi vo vz L x) :
  Calls Tryz.prog 17 #[iB vi vo vz x.dn,DH v cl rq b] w λe w'=>e=.returned (.int .i64 (Mc.eP x cl rq))/\Bw w w':=by
 obtain⟨⟨u,y,z,rfl⟩,⟨A,B,C,rfl⟩,D,F,G,rfl⟩:=h.mP;obtain⟨r,n,o,dn⟩:=x;have c:Hid (Mc.eP ⟨r,n,o,dn⟩ cl rq=if Sh.whole r n o dn=true then (if Mc.KD cl rq=true then (if dn=1099511627776 then 5 else 0) else 1) else 4):=rfl;have t:Hid (Mc.KD cl rq=(decide (0<=cl/\cl<=1099511627776)&&decide (1<=rq/\rq<=1099511627776))):=rfl;have k:Hid (∀ V,Bw w V->Calls Tryz.prog 14 #[iB (.slice u y z) (.slice A B C) (.slice D F G) dn] V λe w'=>e=.returned (.int .i64 (if Sh.whole r n o dn=true then 0 else 4))/\Bw V w'):=λV P=>by
  have:=pE _ _ _ dn L n o V (h.tab.up P) h.ok (h.ops.up P).wide (h.jB.up P).wide
  rwa [h.eq]at this
 generalize Mc.eP ⟨r,n,o,dn⟩ cl rq=E at c |-;generalize Sh.whole r n o dn=wh at c k;generalize Mc.KD cl rq=ib at c t;obtain⟨W,s⟩:=qF ((w.alloc (gB (.slice u y z) (.slice A B C) (.slice D F G) dn)).alloc (yP v cl rq b));have j:Hid _:=xR w (gB (.slice u y z) (.slice A B C) (.slice D F G) dn) (yP v cl rq b);rw[<-s]at j;obtain⟨H,I,J,K⟩:=dg j.out.1;rw[s]at H I J K;clear h;go_enter Tryz.func17,Tryz.ntmps17;go_wp2_with fail;rw[<-s];clear s H I J K;refine (k _ j.out.2.2).mono ?_;rintro e R ⟨rfl,i⟩;have d:Hid _:=j.out.2.2.trans (i.mono j.out.2.2.size);have p:Hid _:=cK j.out.1 i;have q:Hid _:=cK j.out.2.1 i;clear i j k
 cases wh with
 | false =>
  have a:=hH<|show E=4 by rw[c.out];rfl
  clear c;go_wp2;go_ret;rw[a.out];exact⟨rfl,d⟩
 | true =>
  obtain⟨H,I,J,K⟩:=dg p;obtain⟨U,X,Y,Z⟩:=iR q;obtain⟨M,l⟩:=qE (decide (0<=cl/\cl<=1099511627776));obtain⟨N,m⟩:=qE (decide (1<=rq/\rq<=1099511627776));have g:=hH<|show ib=(M&&N) by rw[t.out,l,m]
  have Q:Hid (decide (0<=cl/\cl<=1099511627776)=M/\decide (1<=rq/\rq<=1099511627776)=N):=⟨l,m⟩;clear l m t p q;go_wp2_with fail;refine (sB _ _ _ _).mono ?_;rintro e O ⟨rfl,f⟩;obtain rfl:R=O:=f.symm;clear f;rw[Q.out.1]
  cases M with
  | false =>
   have a:=hH<|show E=1 by rw[c.out,g.out];simp
   clear c;go_wp2;go_ret;rw[a.out];exact⟨rfl,d⟩
  | true =>
   go_wp2_with fail;refine (sB _ _ _ _).mono ?_;rintro e O ⟨rfl,f⟩;obtain rfl:R=O:=f.symm;clear f;rw[Q.out.2]
   cases N with
   | false =>
    have a:=hH<|show E=1 by rw[c.out,g.out];simp
    clear c;go_wp2;go_ret;rw[a.out];exact⟨rfl,d⟩
   | true =>
    by_cases hd:dn=1099511627776
    ·have a:=hH<|show E=5 by rw[c.out,g.out,hd];simp
     have T:(dn==1099511627776)=true:=by simp[hd]
     clear c;go_wp2;go_ret;rw[a.out];exact⟨rfl,d⟩
    ·have a:=hH<|show E=0 by rw[c.out,g.out];simp[hd]
     have T:=MQ.2 hd;clear c hd;go_wp2;go_ret;rw[a.out];exact⟨rfl,d⟩
theorem pC (c)(w):Calls Tryz.prog 21 #[.int .i64 c] w λe w'=>e=.returned (VR (Nf.bad c) (.slice none 0 0))/\Bw w w':=by
 go_enter Tryz.func21,Tryz.ntmps21;go_wp2
 refine MK (v:=VR (Nf.bad c) (.slice none 0 0)) ?_ rfl ⟨rfl,?_⟩
 ·rw[cN rfl]
  go_simp
  simp[Nf.bad]
 ·have h:=(MJ w.1.size w)
  repeat (first | exact h | refine Nr ?_ qn _ | refine MP ?_ qs _)
theorem sh (r)(u)(w)(hv:ey EE w u r.cE)(hs:∀ x∈r.cE,x.1.size<=maxLen) :
  Calls Tryz.prog 20 #[VR r u] w λe w'=>e=.returned (.string (Mc.bytes r))/\Bw w w':=by
 obtain⟨d,a,i,-,-⟩:=hv.open;obtain⟨n,j⟩:=qE r.cE.length;rw[j]at i;subst i;have f:Hid (∀ V,Bw w V->Calls Tryz.prog 36 #[VR r (.slice d n a)] V λe w'=>e=.returned (.tuple #[.string (Mc.bytes r),.int .i64 (Ks.Rs.Re.dd (Mc.rp r))])/\Bw V w'):=λV B=>Ks.Rs.sR (Mc.rp r) (.slice d n a) V (hv.up B) hs
 obtain⟨W,b⟩:=qF (w.alloc (Il r (.slice d n a)));have h:=hH<|show Bw w W by rw[b];exact qG _ _
 obtain⟨k,l,m,o,p,s,t,v,z,A⟩:=ev (show W.1[w.1.size]?=some (Il r (.slice d n a)) by rw[b];exact MD _ _);rw[b]at k l m o p s t v z A;generalize Mc.bytes r=y at f |-;generalize Ks.Rs.Re.dd (Mc.rp r)=q at f;clear hv hs j;go_enter Tryz.func20,Tryz.ntmps20;go_wp2_with fail;rw[<-b];clear b k l m o p s t v z A;refine (f _ h).mono ?_;rintro e C ⟨rfl,c⟩;have g:=qJ h c;clear c;go_wp2;go_ret;exact⟨rfl,g⟩
noncomputable def Mc.Iw (x:Sh.iF) (cl rq:Int):ByteArray:=if Mc.wh x=true then Es.Se.told x.Z cl rq else ⟨#[]⟩
noncomputable def Mc.GN (x:Sh.iF) (cl rq:Int):Bool:=Mc.wh x&&decide (Es.Se.fp x.Z cl rq=2)
theorem tT {S:Nat->Prop}(vi vo vz)(L)(x:Sh.iF)(cl rq)(w)(h:Ms S w vi vo vz L x) :
  Calls Tryz.prog 10 #[iB vi vo vz x.dn,.int .i64 cl,.int .i64 rq] w λe w'=>e=.returned (.tuple #[.string (Mc.Iw x cl rq),.bool (Mc.GN x cl rq)])/\Bw w w':=by
 obtain⟨⟨C,D,E,rfl⟩,⟨F,G,H,rfl⟩,q,r,s,rfl⟩:=h.mP;obtain⟨f,d,a,dn⟩:=x;have g:Hid (Mc.Iw ⟨f,d,a,dn⟩ cl rq=if Sh.whole f d a dn=true then Es.Se.told a cl rq else ⟨#[]⟩):=rfl;have i:Hid (Mc.GN ⟨f,d,a,dn⟩ cl rq=(Sh.whole f d a dn&&decide (Es.Se.fp a cl rq=2))):=rfl;have j:Hid (∀ V,Bw w V->Calls Tryz.prog 14 #[iB (.slice C D E) (.slice F G H) (.slice q r s) dn] V λe w'=>e=.returned (.int .i64 (if Sh.whole f d a dn=true then 0 else 4))/\Bw V w'):=λV p=>by
  have:=pE _ _ _ dn L d a V (h.tab.up p) h.ok (h.ops.up p).wide (h.jB.up p).wide
  rwa [h.eq]at this
 have c:Hid (∀ V,Bw w V->Calls Tryz.prog 18 #[.slice q r s,.int .i64 cl,.int .i64 rq] V λe w'=>e=.returned (.tuple #[.int .i64 (Es.Se.fp a cl rq),.string (Es.Se.told a cl rq),.int .i64 (Es.Se.fu a cl rq)])/\Bw V w'):=λV p=>Es.mB _ a cl rq V (h.jB.up p).wide
 generalize Mc.Iw ⟨f,d,a,dn⟩ cl rq=R at g |-;generalize Mc.GN ⟨f,d,a,dn⟩ cl rq=K at i |-;generalize Sh.whole f d a dn=wh at g i j;generalize Es.Se.fp a cl rq=wt at i c;generalize Es.Se.told a cl rq=td at g c;generalize Es.Se.fu a cl rq=re at c;obtain⟨W,n⟩:=qF (w.alloc (gB (.slice C D E) (.slice F G H) (.slice q r s) dn));have I:=hH<|show Bw w W by rw[n];exact qG _ _
 have A:=hH<|show W.heap[w.heap.size]?=some (gB (.slice C D E) (.slice F G H) (.slice q r s) dn) by rw[n];exact MD _ _
 obtain⟨t,u,y,z⟩:=dg A;rw[n]at t u y z;clear h;go_enter Tryz.func10,Tryz.ntmps10;go_wp2_with fail;rw[<-n];clear n t u y z;refine (j _ I).mono ?_;rintro e J ⟨rfl,l⟩;have k:=qJ I l;have m:Hid _:=cK A l;clear l A j
 cases wh with
 | false =>
  have b:Hid (R=⟨#[]⟩/\K=false):=⟨by rw[g.out];rfl,by rw[i.out];rfl⟩;clear g i;go_wp2
  refine MK (v:=.tuple #[.string ⟨#[]⟩,.bool false]) (by simp[results,Tryz.results10,go_sem]) rfl ⟨by rw[b.out.1,b.out.2],k⟩
 | true =>
  have b:Hid (R=td/\K=(wt==2)):=⟨by rw[g.out];rfl,by rw[i.out];rfl⟩;obtain⟨t,u,y,z⟩:=dg m;clear g i m;go_wp2_with fail;refine (c _ k).mono ?_;rintro e M ⟨rfl,o⟩;have B:=qJ k o;clear o t u y z;go_wp2
  refine MK (v:=.tuple #[.string td,.bool (wt==2)]) (by simp[results,Tryz.results10,go_sem]) rfl ⟨by rw[b.out.1,b.out.2],B⟩
end Go.Proofs.YtiifhfmekbhlnaaGreat
namespace Go.Proofs.YtiifhfmekbhlnaaGreat
open It RowKit
namespace Mc
theorem A4 {L:List cL}{a b:Int}{e:eA}(h:e∈(cY L a b).cE):∃ x∈L,e∈x.cE:=by
 unfold cY at h;split at h
 ·cases hx:L[a.toNat]? with
  | none=>rw[hx]at h;cases h
  | some x=>rw[hx]at h;exact⟨x,MG hx,h⟩
 ·cases h
theorem Fv {L:List cL}{O:List Os.dP}{dn cl:Int}{c:fw}{e:eA}(h:e∈(Nf.rep L O dn cl c).cE):∃ x∈L,e∈x.cE:=by
 have f:∀ E,e ∉ (Nf.bad E).cE:=λE h=>by cases h
 have g:∀ E i d x,e ∉ (Nf.told E i d x).cE:=λE i d x h=>by
  obtain⟨r,b⟩:=qE (Nf.told E i d x);rw[b]at h;unfold Nf.told at b
  repeat' split at b
  all_goals
   subst b
   first
   | exact f _ h
   | cases h
 have j:e∈(Nf.y7 L c).cE->∃ x∈L,e∈x.cE:=λh=>by
  have a:e∈Nf.JR L c:=h;unfold Nf.JR at a;split at a
  ·unfold Fo.sW at a;split at a
   ·exact A4 (List.mem_of_mem_drop (List.mem_of_mem_take a))
   ·cases a
  ·cases a
 have l:e ∉ (Nf.AJ L c dn).cE:=λh=>by rw[(Nf.Fp L c dn).2]at h;cases h
 have m:e ∉ (Nf.AW L c dn).cE:=λh=>by
  obtain⟨r,b⟩:=qE (Nf.AW L c dn);rw[b]at h;unfold Nf.AW at b
  repeat' split at b
  all_goals
   subst b
   first
   | exact f _ h
   | cases h
 unfold Nf.rep at h
 by_cases a:c.k=1
 ·rw[MC a]at h;exact absurd h (g _ _ _ _)
 rw[ME a]at h
 by_cases h2:c.k=2
 ·rw[MC h2]at h;exact absurd h (g _ _ _ _)
 rw[ME h2]at h
 by_cases h3:c.k=3
 ·rw[MC h3]at h;exact absurd h (g _ _ _ _)
 rw[ME h3]at h
 by_cases h4:c.k=4
 ·rw[MC h4]at h;exact absurd h (g _ _ _ _)
 rw[ME h4]at h
 by_cases h5:c.k=5
 ·rw[MC h5]at h;cases h
 rw[ME h5]at h
 by_cases h6:c.k=6
 ·rw[MC h6]at h;exact absurd h l
 rw[ME h6]at h
 by_cases h7:c.k=7
 ·rw[MC h7]at h;exact absurd h m
 rw[ME h7]at h
 by_cases h8:c.k=8
 ·rw[MC h8]at h;exact absurd h (g _ _ _ _)
 rw[ME h8]at h
 by_cases h9:c.k=9
 ·rw[MC h9]at h;exact absurd h (f _)
 rw[ME h9]at h
 by_cases h10:c.k=10
 ·rw[MC h10]at h;exact absurd h (f _)
 rw[ME h10]at h
 by_cases h11:c.k=11
 ·rw[MC h11]at h;exact absurd h (f _)
 rw[ME h11]at h
 by_cases h12:c.k=12
 ·rw[MC h12]at h;exact j h
 rw[ME h12]at h
 by_cases h13:c.k=13
 ·rw[MC h13]at h;cases h
 rw[ME h13]at h;exact absurd h (f _)
theorem IC {x:Sh.iF}{cl:Int}{b:ByteArray}{e:eA}(h:e∈(CL x cl b).cE):∃ y∈x.L,e∈y.cE:=by
 obtain⟨r,a⟩:=qE (CL x cl b);rw[a]at h;unfold CL Nf.kI at a
 repeat' split at a
 all_goals
  subst a
  first
  | exact Fv h
  | cases h
end Mc
end Go.Proofs.YtiifhfmekbhlnaaGreat
namespace Go.Proofs.YtiifhfmekbhlnaaGreat.Ks
open ChangeShapes WideShapes ChangeAt RowKit Deep
open Ak
theorem gW (s)(w)(hs:s.size<=maxLen):Calls Tryz.prog 126 #[.string s] w λe w'=>e=.returned (.int .i64 (Pl.de s))/\w'=w:=by
 have a:=hH hs;clear hs;go_enter Tryz.func126,Tryz.ntmps126;go_wp2_with fail;refine (pd s _ a).mono ?_;rintro e b ⟨rfl,rfl⟩;go_wp2;go_ret;exact⟨rfl,rfl⟩
theorem lf (S)(w):Calls Tryz.prog 127 #[.string S] w λe w'=>e=.returned (VH (jR S) (iC S))/\Bw w w':=by
 by_cases h7:S.size=7
 ·have b : Hid ((S.extract 0 1).size ≤ maxLen ∧ (S.extract 1 7).size ≤ maxLen) := ⟨by rw[NL];unfold maxLen;omega,by rw[NL];unfold maxLen;omega⟩
  have a:Hid (jR S=Pl.de (S.extract 0 1)/\iC S=Pl.de (S.extract 1 7)):=⟨by unfold jR;rw[MC h7],by unfold iC;rw[MC h7]⟩;go_enter Tryz.func127,Tryz.ntmps127;go_wp2
  go_region_held3 (λ_=>True) (trivial) (first
   | (go_at_call_of 126 (Value.string (S.extract 0 1));refine (gW _ _ b.out.1).mono ?_;rintro e d ⟨rfl,rfl⟩)
   | (go_at_call_of 126 (Value.string (S.extract 1 7));refine (gW _ _ b.out.2).mono ?_;rintro e d ⟨rfl,rfl⟩))
  all_goals
   generalize Pl.de (S.extract 0 1)=k at a |-;generalize Pl.de (S.extract 1 7)=l at a |-;go_wp2;refine MK (v:=VH k l) (by simp[results,Tryz.results127,go_sem]) rfl ⟨?_,?_⟩
   ·rw[a.out.1,a.out.2]
   ·first | exact (qG _ _).drew | exact ((MJ _ _).drew).alloc qn _
 ·have H : Hid (jR S=0 ∧ iC S=0) := ⟨by unfold jR;rw[ME h7],by unfold iC;rw[ME h7]⟩
  have c:((S.size:Int)!=7)=true:=qt
  clear h7;rw[H.out.1,H.out.2];go_enter Tryz.func127,Tryz.ntmps127;go_wp2;exact MK (v:=VH 0 0) (by simp[results,Tryz.results127,go_sem]) rfl ⟨rfl,qG _ _⟩
abbrev VX (t:Int) (s:ByteArray):Value:=.agg #[.int .i64 t,.string s]
abbrev BX (t:Int) (s:ByteArray):Obj:=.cells #[.int .i64 t,.string s] 134
theorem KF (c:Cl)(s)(w)(hs:s.size<=maxLen):Calls Tryz.prog 86 #[VC c,VX 1 s] w λe w'=>e=.returned (VC { c with k:=Pl.de s })/\Bw w w':=by
 have h:=hH hs;clear hs;obtain⟨k,i,d,f,a,j,g,l,n,b⟩:=c;go_enter Tryz.func86,Tryz.ntmps86;go_wp2_with fail;refine (gW s _ h).mono ?_;rintro e m ⟨rfl,rfl⟩;go_wp2;refine MK (v:=VC ⟨Pl.de s,i,d,f,a,j,g,l,n,b⟩) (by simp[results,Tryz.results86,go_sem]) rfl ⟨rfl,?_⟩;exact (qG _ _).alloc qs _ |>.alloc qt _
theorem J4 (c:Cl)(s)(w)(hs:s.size<=maxLen):Calls Tryz.prog 86 #[VC c,VX 6 s] w λe w'=>e=.returned (VC { c with pl:=Pl.de s })/\Bw w w':=by
 have h:=hH hs;clear hs;obtain⟨k,i,d,f,a,j,g,pl,n,b⟩:=c;go_enter Tryz.func86,Tryz.ntmps86;go_wp2_with fail;refine (gW s _ h).mono ?_;rintro e l ⟨rfl,rfl⟩;go_wp2;refine MK (v:=VC ⟨k,i,d,f,a,j,g,Pl.de s,n,b⟩) (by simp[results,Tryz.results86,go_sem]) rfl ⟨rfl,?_⟩;exact (qG _ _).alloc qs _ |>.alloc qt _
theorem Kn (c:Cl)(s)(w)(hs:s.size<=maxLen):Calls Tryz.prog 86 #[VC c,VX 7 s] w λe w'=>e=.returned (VC { c with n:=Pl.de s })/\Bw w w':=by
 have h:=hH hs;clear hs;obtain⟨k,i,d,f,a,j,g,l,n,b⟩:=c;go_enter Tryz.func86,Tryz.ntmps86;go_wp2_with fail;refine (gW s _ h).mono ?_;rintro e m ⟨rfl,rfl⟩;go_wp2;refine MK (v:=VC ⟨k,i,d,f,a,j,g,l,Pl.de s,b⟩) (by simp[results,Tryz.results86,go_sem]) rfl ⟨rfl,?_⟩;exact (qG _ _).alloc qs _ |>.alloc qt _
theorem Kc (c:Cl)(s)(w):Calls Tryz.prog 86 #[VC c,VX 4 s] w λe w'=>e=.returned (VC { c with nm:=s })/\Bw w w':=by
 obtain⟨k,h,d,f,a,nm,g,i,n,b⟩:=c;go_enter Tryz.func86,Tryz.ntmps86;go_wp2;refine MK (v:=VC ⟨k,h,d,f,a,s,g,i,n,b⟩) (by simp[results,Tryz.results86,go_sem]) rfl ⟨rfl,?_⟩;exact (qG _ _).alloc qs _ |>.alloc qt _
theorem J6 (c:Cl)(s)(w):Calls Tryz.prog 86 #[VC c,VX 5 s] w λe w'=>e=.returned (VC { c with lV:=s })/\Bw w w':=by
 obtain⟨k,g,d,f,a,h,lV,i,n,b⟩:=c;go_enter Tryz.func86,Tryz.ntmps86;go_wp2;refine MK (v:=VC ⟨k,g,d,f,a,h,s,i,n,b⟩) (by simp[results,Tryz.results86,go_sem]) rfl ⟨rfl,?_⟩;exact (qG _ _).alloc qs _ |>.alloc qt _
theorem Kz (c:Cl)(s)(w):Calls Tryz.prog 86 #[VC c,VX 8 s] w λe w'=>e=.returned (VC { c with data:=s })/\Bw w w':=by
 obtain⟨k,g,b,d,a,h,f,i,n,data⟩:=c;go_enter Tryz.func86,Tryz.ntmps86;go_wp2;refine MK (v:=VC ⟨k,g,b,d,a,h,f,i,n,s⟩) (by simp[results,Tryz.results86,go_sem]) rfl ⟨rfl,?_⟩;exact (qG _ _).alloc qs _ |>.alloc qt _
theorem KL (c:Cl)(s)(w:World):Calls Tryz.prog 86 #[VC c,VX 2 s] w λe w'=>e=.returned (VC { c with no:=jR s,gen:=iC s })/\Bw w w':=by
 obtain⟨k,no,gen,f,a,q,g,r,n,b⟩:=c;obtain⟨u,h⟩:=qE (jR s);obtain⟨x,i⟩:=qE (iC s);have t:Hid (jR s=u/\iC s=x):=⟨h,i⟩;rw[h,i];clear h i;go_enter Tryz.func86,Tryz.ntmps86;go_wp2_with fail;refine (lf s _).mono ?_;rintro e l ⟨rfl,d⟩;rw[t.out.1,t.out.2];have m:Hid (l.1[w.1.size]?=some (BC ⟨k,no,gen,f,a,q,g,r,n,b⟩)):=(d.block _ qt).trans ((ML _ _ _ qt).trans ((ML _ _ _ (by simp)).trans (MD w _)));have o:Hid (l.1[w.1.size+1+1]?=some (BC Ak.zero)):=(d.block _ (by simp)).trans (by have:=MD ((w.alloc (BC ⟨k,no,gen,f,a,q,g,r,n,b⟩)).alloc (BX 2 s)) (BC Ak.zero);rw[NV,NV]at this;exact this);have y:=hH<|((qG _ _).alloc qs _ |>.alloc qt _).trans (d.mono (by simp;omega));obtain⟨N,O,P,Q,R,S,T,U,V,W⟩:=dK m;obtain⟨z,A,B,C,D,E,F,G,H,I⟩:=dK o.out;have J:=dC m.out;have K:=dC o.out;have L:∀ j,l.frozen? ⟨w.1.size,j,none⟩=false:=λj=>by simp[World.frozen?,m.out]
 have M:∀ j,l.frozen? ⟨w.1.size+1+1,j,none⟩=false:=λj=>by simp[World.frozen?,o.out]
 clear d;go_wp2;refine MK (v:=VC ⟨k,u,x,f,a,q,g,r,n,b⟩) (by simp[results,Tryz.results86,go_sem,z,A,B,C,D,E,F,G,H,I]) rfl ⟨rfl,?_⟩;exact ((((((((((((y.setCell (p:=⟨w.1.size,1,none⟩) qn _).setCell (p:=⟨w.1.size,2,none⟩) qn _).setCell (p:=⟨w.1.size+1+1,0,none⟩) qt _).setCell (p:=⟨w.1.size+1+1,1,none⟩) qt _).setCell (p:=⟨w.1.size+1+1,2,none⟩) qt _).setCell (p:=⟨w.1.size+1+1,3,none⟩) qt _).setCell (p:=⟨w.1.size+1+1,4,none⟩) qt _).setCell (p:=⟨w.1.size+1+1,5,none⟩) qt _).setCell (p:=⟨w.1.size+1+1,6,none⟩) qt _).setCell (p:=⟨w.1.size+1+1,7,none⟩) qt _).setCell (p:=⟨w.1.size+1+1,8,none⟩) qt _).setCell (p:=⟨w.1.size+1+1,9,none⟩) qt _)
theorem Kg (c:Cl)(s)(w:World):Calls Tryz.prog 86 #[VC c,VX 3 s] w λe w'=>e=.returned (VC { c with jz:=jR s,fm:=iC s })/\Bw w w':=by
 obtain⟨k,o,d,jz,fm,q,f,r,n,a⟩:=c;obtain⟨u,g⟩:=qE (jR s);obtain⟨x,h⟩:=qE (iC s);have t:Hid (jR s=u/\iC s=x):=⟨g,h⟩;rw[g,h];clear g h;go_enter Tryz.func86,Tryz.ntmps86;go_wp2_with fail;refine (lf s _).mono ?_;rintro e i ⟨rfl,b⟩;rw[t.out.1,t.out.2];have l:Hid (i.1[w.1.size]?=some (BC ⟨k,o,d,jz,fm,q,f,r,n,a⟩)):=(b.block _ qt).trans ((ML _ _ _ qt).trans ((ML _ _ _ (by simp)).trans (MD w _)));have m:Hid (i.1[w.1.size+1+1]?=some (BC Ak.zero)):=(b.block _ (by simp)).trans (by have:=MD ((w.alloc (BC ⟨k,o,d,jz,fm,q,f,r,n,a⟩)).alloc (BX 3 s)) (BC Ak.zero);rw[NV,NV]at this;exact this);have y:=hH<|((qG _ _).alloc qs _ |>.alloc qt _).trans (b.mono (by simp;omega));obtain⟨N,O,P,Q,R,S,T,U,V,W⟩:=dK l;obtain⟨z,A,B,C,D,E,F,G,H,I⟩:=dK m.out;have J:=dC l.out;have K:=dC m.out;have L:∀ j,i.frozen? ⟨w.1.size,j,none⟩=false:=λj=>by simp[World.frozen?,l.out]
 have M:∀ j,i.frozen? ⟨w.1.size+1+1,j,none⟩=false:=λj=>by simp[World.frozen?,m.out]
 clear b;go_wp2;refine MK (v:=VC ⟨k,o,d,u,x,q,f,r,n,a⟩) (by simp[results,Tryz.results86,go_sem,z,A,B,C,D,E,F,G,H,I]) rfl ⟨rfl,?_⟩;exact ((((((((((((y.setCell (p:=⟨w.1.size,3,none⟩) qn _).setCell (p:=⟨w.1.size,4,none⟩) qn _).setCell (p:=⟨w.1.size+1+1,0,none⟩) qt _).setCell (p:=⟨w.1.size+1+1,1,none⟩) qt _).setCell (p:=⟨w.1.size+1+1,2,none⟩) qt _).setCell (p:=⟨w.1.size+1+1,3,none⟩) qt _).setCell (p:=⟨w.1.size+1+1,4,none⟩) qt _).setCell (p:=⟨w.1.size+1+1,5,none⟩) qt _).setCell (p:=⟨w.1.size+1+1,6,none⟩) qt _).setCell (p:=⟨w.1.size+1+1,7,none⟩) qt _).setCell (p:=⟨w.1.size+1+1,8,none⟩) qt _).setCell (p:=⟨w.1.size+1+1,9,none⟩) qt _)
theorem Kb (c:Cl)(t)(s)(w)(h1:t≠1)(h2:t≠2)(h3:t≠3)(h4:t≠4)(h5:t≠5)(h6:t≠6)(h7:t≠7)(h8:t≠8):Calls Tryz.prog 86 #[VC c,VX t s] w λe w'=>e=.returned (VC c)/\Bw w w':=by
 obtain⟨k,h,d,f,a,i,g,j,n,b⟩:=c;have l:(t==1)=false:=by simpa using h1
 have m:(t==2)=false:=by simpa using h2
 have o:(t==3)=false:=by simpa using h3
 have p:(t==4)=false:=by simpa using h4
 have q:(t==5)=false:=by simpa using h5
 have r:(t==6)=false:=by simpa using h6
 have u:(t==7)=false:=by simpa using h7
 have x:(t==8)=false:=by simpa using h8
 clear h1 h2 h3 h4 h5 h6 h7 h8;go_enter Tryz.func86,Tryz.ntmps86;go_wp2;refine MK (v:=VC ⟨k,h,d,f,a,i,g,j,n,b⟩) (by simp[results,Tryz.results86,go_sem]) rfl ⟨rfl,?_⟩;exact (qG _ _).alloc qs _ |>.alloc qt _
theorem lZ (c:Cl)(t)(s)(w)(hs:s.size<=maxLen):Calls Tryz.prog 86 #[VC c,VX t s] w λe w'=>e=.returned (VC (kq c (t,s)))/\Bw w w':=by
 unfold kq;simp only
 by_cases h1:t=1
 ·subst h1
  exact KF c s w hs
 by_cases h2:t=2
 ·subst h2
  exact KL c s w
 by_cases h3:t=3
 ·subst h3
  exact Kg c s w
 by_cases h4:t=4
 ·subst h4
  exact Kc c s w
 by_cases h5:t=5
 ·subst h5
  exact J6 c s w
 by_cases h6:t=6
 ·subst h6
  exact J4 c s w hs
 by_cases h7:t=7
 ·subst h7
  exact Kn c s w hs
 by_cases h8:t=8
 ·subst h8
  exact Kz c s w
 rw[ME h1,ME h2,ME h3,ME h4,ME h5,ME h6,ME h7,ME h8];exact Kb c t s w h1 h2 h3 h4 h5 h6 h7 h8
end Go.Proofs.YtiifhfmekbhlnaaGreat.Ks
