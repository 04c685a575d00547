/- Part 3. -/
import Derived.Laws.RangeAny
import Derived.Maps.OwnSet
import Derived.Maps.RangeRun
import Derived.Laws.IdiomRangeMap
import Derived.RangeFuncOwn
import Derived.Test.YtiifhfmekbhlnaaGreatH2
set_option maxHeartbeats 8000000
set_option maxRecDepth 100000
namespace Go.Proofs.YtiifhfmekbhlnaaGreat
section
namespace Nm
def clean (s:ByteArray) (p:Nat):Prop:=∀ i (h:i<s.size),i<p->(s[i]'h).toNat≠47/\(s[i]'h).toNat≠0
def ok (s:ByteArray):Prop:=1<=s.size/\s.size<=32/\s≠⟨#[46]⟩/\s≠⟨#[46,46]⟩/\clean s s.size
open Classical in
noncomputable def err (s:ByteArray):Int:=if ok s then 0 else 409
theorem jP {s:ByteArray}(h:ok s):err s=0:=by unfold err;rw[MC h]
theorem ir {s:ByteArray}(h:¬ ok s):err s=409:=by unfold err;rw[ME h]
theorem og (s):(err s=0/\ok s)\/(err s=409/\¬ ok s):=by
 by_cases h:ok s
 ·exact .inl ⟨jP h,h⟩
 ·exact .inr ⟨ir h,h⟩
theorem pw (s):clean s 0:=λi _ h=>by omega
theorem rL {s:ByteArray}{p:Nat}(h:p<s.size)(hb:(s[p]'h).toNat=47\/(s[p]'h).toNat=0):¬ ok s:=λa=>by
 have:=a.2.2.2.2 p h h;rcases hb with hb | hb
 ·exact this.1 hb
 ·exact this.2 hb
theorem uS (s:ByteArray)(i:Nat)(h:i<s.size):s.get! i=s[i]'h:=by
 simp[ByteArray.get!,getElem!_pos,h];rfl
theorem jZ (s)(pos)(h:pos<s.size):1<=(Utf8.decode s pos).2/\pos+(Utf8.decode s pos).2<=s.size/\∀ k,1<=k->k<(Utf8.decode s pos).2->128<=(s.get! (pos+k)).toNat:=by
  by_cases ha:(s[pos]'h).toNat<128
  · rw[decode_ascii s pos h ha]
    exact⟨qn,h,λk c b=>by simp at b;omega⟩
  · simp only[Utf8.decode,get_at s pos h,ha,if_false]
    generalize c:(s.get! (pos+1)).toNat=b1;generalize b:(s.get! (pos+2)).toNat=b2;generalize h3:(s.get! (pos+3)).toNat=b3;have a:∀ k,1<=k->k<1->128<=(s.get! (pos+k)).toNat:=λk _ _=>by omega
    repeat' split
    all_goals simp only[Bool.and_eq_true,decide_eq_true_eq,beq_iff_eq]at *
    all_goals refine⟨qd,qo,?_⟩
    all_goals first
      | exact a
      | (intro k f g
         have d:k=1\/k=2\/k=3:=qo
         rcases d with rfl | rfl | rfl
         · rw[c];omega
         · rw[b];omega
         · rw[h3];omega)
theorem k9 (s)(pos)(h:pos<s.size):((Utf8.decode s pos).1=47 ↔ (s[pos]'h).toNat=47)/\((Utf8.decode s pos).1=0 ↔ (s[pos]'h).toNat=0):=by
 by_cases ha:(s[pos]'h).toNat<128
 ·rw[decode_ascii s pos h ha]
  exact⟨Iff.rfl,Iff.rfl⟩
 ·have := (decode_high s pos h qo).1
  constructor <;> constructor <;> intro a <;> omega
theorem py {s:ByteArray}{p:Nat}(h:p<s.size)(hc:clean s p)(h1:(Utf8.decode s p).1≠47)(h2:(Utf8.decode s p).1≠0):clean s (p+(Utf8.decode s p).2):=λi d f=>by
 obtain⟨a,b⟩:=k9 s p h
 by_cases e:i<p
 ·exact hc i d e
 ·by_cases e2 : i=p
  ·subst e2
   exact⟨λc=>h1 (a.2 c),λc=>h2 (b.2 c)⟩
  ·have := (jZ s p h).2.2 (i-p) qo (by omega)
   rw[show p+(i-p)=i by omega,uS s i d]at this;constructor <;> omega
end Nm
end
section
open RowKit Maps
abbrev eA:=ByteArray × Int × Int × Int
def Ho (no gen:Int):Prop:=(0<=no/\no<=23)/\(1<=gen/\gen<=1099511627776)
instance (no gen:Int):Decidable (Ho no gen):=by unfold Ho;infer_instance
namespace Fo
def o4 (l:List eA):Nat->Int
 | 0=>0
 | i+1=>(l.getD i (.empty,0,0,0)).2.1
def lL (next:Int) (l:List eA) (i:Nat):Prop:=∀ x,l[i]?=some x->Nm.ok x.1/\(o4 l i+1<=x.2.1/\x.2.1<=next)/\Ho x.2.2.1 x.2.2.2
def Kw (next:Int) (l:List eA) (k:Nat):Prop:=∀ i,i<k->lL next l i
def apart (l:List eA):Prop:=(l.map (·.1)).Nodup
def fE (l:List eA) (next:Int):Prop:=(0<=next/\next<=1099511627776)/\Kw next l l.length/\apart l
open Classical in
noncomputable def err (l:List eA) (next:Int):Int:=if fE l next then 0 else 4
theorem jP {l:List eA}{next:Int}(h:fE l next):err l next=0:=by unfold err;rw[MC h]
theorem ir {l:List eA}{next:Int}(h:¬ fE l next):err l next=4:=by unfold err;rw[ME h]
theorem og (l)(next):(err l next=0/\fE l next)\/(err l next=4/\¬ fE l next):=by
 by_cases h:fE l next
 ·exact .inl ⟨jP h,h⟩
 ·exact .inr ⟨ir h,h⟩
theorem GC (next)(l):Kw next l 0:=λi h=>by omega
theorem FJ {next:Int}{l:List eA}{k:Nat}(h:Kw next l k)(hg:lL next l k):Kw next l (k+1):=λi a=>by
 by_cases e:i=k
 ·subst e
  exact hg
 ·exact h i qo
theorem ld {l:List eA}{k:Nat}{x:eA}(h:l[k]?=some x):o4 l (k+1)=x.2.1:=by
 simp[o4,List.getD,h]
theorem uB {next:Int}{l:List eA}{k:Nat}(h:Kw next l k)(hk:k<=l.length)(hn:0<=next):0<=o4 l k/\o4 l k<=next:=by
 induction k with
 | zero=>exact⟨Ng _,hn⟩
 | succ k ih =>
  have a:l[k]?=some l[k]:=MF (by omega);have b:=h k qo _ a;have:=ih (λi c=>h i qo) qo;rw[ld a];omega
theorem tV {next:Int}{l:List eA}{k:Nat}{x:eA}(hx:l[k]?=some x)(h:¬ (Nm.ok x.1/\(o4 l k+1<=x.2.1/\x.2.1<=next)/\Ho x.2.2.1 x.2.2.2)):err l next=4 :=
 ir λa=>h (a.2.1 k (MN.1 hx).1 x hx)
def keys (l:List eA) (k:Nat):List Lit:=(l.take k).map λx=>.string x.1.data.toList
def Sn {H:Type} (l:List eA) (k:Nat):DataW H:=setOf (.agg []) (keys l k)
theorem Iv {H:Type}(l):Sn (H:=H) l 0=.map []:=by simp[Sn,keys,setOf]
theorem JA {H:Type}{l:List eA}{k:Nat}{x:eA}(h:l[k]?=some x):Sn (H:=H) l (k+1)=(Sn l k).put (.string x.1.data.toList) (.agg []):=by
 unfold Sn keys;rw[NF,NO,h];exact setOf_snoc _ _ _
theorem rI : ∀ (xs acc : List Lit),(∀ x ∈ xs,WideAt.IsKeyLit x) → (xs.foldl addKey acc).length ≤ acc.length+xs.length ∧ ((xs.foldl addKey acc).length=acc.length+xs.length ↔ xs.Nodup ∧ ∀ x ∈ xs,x ∉ acc)
 | [],acc,_=>by simp
 | x::r,acc,h => by
  have hk:=h x qs;have hr:=λy hy=>h y (N2 x hy)
  rw[O0]
  by_cases hm:x∈acc
  ·have e : addKey acc x=acc := by
    unfold addKey;have g:acc.any (λy=>y.sameKey x)=true:=List.any_eq_true.2 ⟨x,hm,WideAt.sameKey_self hk⟩;exact MC g
   have d:=rI r acc hr;rw[e];refine⟨qt,λb=>?_,λb=>absurd hm (b.2 x qs)⟩;simp at b;omega
  ·have e : addKey acc x=acc++[x] := by
    unfold addKey;rw[ME];intro b;obtain⟨y,hy,i⟩:=List.any_eq_true.1 b;exact hm (WideAt.sameKey_eq i ▸ hy)
   have d:=rI r (acc++[x]) hr;rw[e];simp only[List.length_append,List.length_cons,List.length_nil]at d |-;refine⟨qo,?_⟩;rw[show acc.length+(r.length+1)=acc.length+(0+1)+r.length by omega,d.2,OZ];constructor
   ·rintro ⟨f,c⟩
    refine⟨⟨λk=>(c x k) qs,f⟩,λy hy=>?_⟩;rcases Ni.1 hy with rfl | hy
    ·exact hm
    ·exact λa=>c y hy (by simp[a])
   ·rintro ⟨⟨j,f⟩,c⟩
    refine⟨f,λy hy a=>?_⟩;rcases Na.1 a with a | a
    ·exact c y (by simp[hy]) a
    ·simp at a
     subst a;exact j hy
theorem xf {α β:Type}{f:α->β}(hf:∀ a b,f a=f b->a=b):∀ l:List α,(l.map f).Nodup ↔ l.Nodup
 | []=>by simp
 | x::r => by
  rw[Nx,OZ,OZ,xf hf r];constructor
  ·rintro ⟨h1,h2⟩
   exact⟨λh=>h1 (List.mem_map_of_mem h),h2⟩
  ·rintro ⟨h1,h2⟩
   refine⟨λh=>?_,h2⟩;obtain⟨y,hy,e⟩:=NI.1 h;exact h1 (hf _ _ e ▸ hy)
theorem Hu (l):Maps.size (Sn (H:=Unit) l l.length)<=l.length/\(Maps.size (Sn (H:=Unit) l l.length)=l.length ↔ apart l):=by
 have c:∀ x∈keys l l.length,WideAt.IsKeyLit x:=λx g=>by
  obtain⟨y,_,rfl⟩:=NI.1 g
  trivial
 have d:(keys l l.length).length=l.length:=by simp[keys]
 have:=rI (keys l l.length) [] c;unfold Sn;rw[size_setOf _ _ c];simp only[List.length_nil,Nat.zero_add,d,List.not_mem_nil,not_false_eq_true,implies_true,and_true]at this;refine⟨this.1,this.2.trans ?_⟩;unfold apart keys;rw[Ns,<-xf (f:=λs:ByteArray=>Lit.string s.data.toList) (λa b h=>?_) (l.map (·.1)),List.map_map]
 ·rfl
 ·cases a
  cases b
  simp at h;simp[h]
theorem I8 {l:List eA}{next:Int}(hn:0<=next/\next<=1099511627776)(hp:Kw next l l.length):err l next=if Maps.size (Sn (H:=Unit) l l.length)<l.length then 4 else 0:=by
 have:=Hu l
 by_cases h:apart l
 ·rw[jP ⟨hn,hp,h⟩,ME]
  have:=this.2.2 h;omega
 ·rw[ir λa => h a.2.2,MC]
  have b:=this.1;have c:¬ Maps.size (Sn (H:=Unit) l l.length)=l.length:=λe=>h (this.2.1 e)
  omega
end Fo
end
section
open ChangeShapes WideShapes ChangeAt RowKit Deep
theorem kh (lo x hi)(w):Calls Tryz.prog 147 #[.int .i64 lo,.int .i64 x,.int .i64 hi] w λe w'=>e=.returned (.bool (decide (lo<=x/\x<=hi)))/\w'=w:=by
 by_cases h1:lo<=x
 ·by_cases h2:x<=hi
  ·rw[MT (show lo<=x/\x<=hi from⟨h1,h2⟩)];go_enter Tryz.func147,Tryz.ntmps147;go_wp2;go_ret;exact⟨rfl,rfl⟩
  ·rw[MO (show ¬ (lo<=x/\x<=hi) from λh=>h2 h.2)];go_enter Tryz.func147,Tryz.ntmps147;go_wp2;go_ret;exact⟨rfl,rfl⟩
 ·rw[MO (show ¬ (lo<=x/\x<=hi) from λh=>h1 h.1)];go_enter Tryz.func147,Tryz.ntmps147;go_wp2;go_ret;exact⟨rfl,rfl⟩
theorem eD (lo x hi)(w)(h:lo<=x/\x<=hi):Calls Tryz.prog 147 #[.int .i64 lo,.int .i64 x,.int .i64 hi] w λe w'=>e=.returned (.bool true)/\w'=w:=by
 have:=kh lo x hi w
 rwa [MT h]at this
theorem il (lo x hi)(w)(h:¬ (lo<=x/\x<=hi)):Calls Tryz.prog 147 #[.int .i64 lo,.int .i64 x,.int .i64 hi] w λe w'=>e=.returned (.bool false)/\w'=w:=by
 have:=kh lo x hi w
 rwa [MO h]at this
abbrev oS (no gen:Int):Obj:=.cells #[.int .i64 no,.int .i64 gen] 57
abbrev LR (no gen:Int):Value:=.agg #[.int .i64 no,.int .i64 gen]
theorem j9 (no gen)(w):Calls Tryz.prog 148 #[LR no gen] w λe w'=>e=.returned (.bool (decide (Ho no gen)))/\w'=w.alloc (oS no gen):=by
 by_cases h1:0<=no/\no<=23
 ·by_cases h2:1<=gen/\gen<=1099511627776
  ·rw[MT (show Ho no gen from⟨h1,h2⟩)];have H:Hid ((0<=no/\no<=23)/\(1<=gen/\gen<=1099511627776)):=⟨h1,h2⟩;clear h1 h2;go_enter Tryz.func148,Tryz.ntmps148;go_wp2_with fail;refine (eD _ _ _ _ H.out.1).mono ?_;rintro e w' ⟨rfl,rfl⟩;go_wp2_with fail;refine (eD _ _ _ _ H.out.2).mono ?_;rintro e w' ⟨rfl,rfl⟩;go_wp2;go_ret;exact⟨rfl,rfl⟩
  ·rw[MO (show ¬ Ho no gen from λh=>h2 h.2)];have H:Hid ((0<=no/\no<=23)/\¬ (1<=gen/\gen<=1099511627776)):=⟨h1,h2⟩;clear h1 h2;go_enter Tryz.func148,Tryz.ntmps148;go_wp2_with fail;refine (eD _ _ _ _ H.out.1).mono ?_;rintro e w' ⟨rfl,rfl⟩;go_wp2_with fail;refine (il _ _ _ _ H.out.2).mono ?_;rintro e w' ⟨rfl,rfl⟩;go_wp2;go_ret;exact⟨rfl,rfl⟩
 ·rw[MO (show ¬ Ho no gen from λh=>h1 h.1)];have H:Hid _:=h1;clear h1;go_enter Tryz.func148,Tryz.ntmps148;go_wp2_with fail;refine (il _ _ _ _ H).mono ?_;rintro e w' ⟨rfl,rfl⟩;go_wp2;go_ret;exact⟨rfl,rfl⟩
theorem mf {s:ByteArray}{a:Array UInt8}(h:s≠⟨a⟩):¬ s.toList=a.toList:=λe=>h (by
 rw[ND]at e
 cases s
 simp at e;rw[e])
theorem iX {w:World}(s)(p):Bw w (w.iter s p):=qG _ _
theorem jl (s )(w )(hm : s.size ≤ maxLen) : Calls Tryz.prog 143 #[.string s] w λe w' => e=.returned (.int .i64 (Nm.err s)) ∧ Bw w w' := by
 unfold maxLen at hm
 by_cases h1:1<=(s.size:Int)/\(s.size:Int)<=32
 ·have c : Hid _ := h1
  by_cases h2:s=⟨#[46]⟩
  ·have H:Hid _:=Nm.ir λh=>h.2.2.1 h2
   rw[H.out];subst h2;go_enter Tryz.func143,Tryz.ntmps143;go_wp2_with fail;refine (eD _ _ _ _ c).mono ?_;rintro e w' ⟨rfl,rfl⟩;go_wp2;go_ret;exact⟨rfl,MJ _ _⟩
  ·by_cases h3:s=⟨#[46,46]⟩
   ·have H:Hid _:=Nm.ir λh=>h.2.2.2.1 h3
    rw[H.out];subst h3;go_enter Tryz.func143,Tryz.ntmps143;go_wp2_with fail;refine (eD _ _ _ _ c).mono ?_;rintro e w' ⟨rfl,rfl⟩;go_wp2;go_ret;exact⟨rfl,MJ _ _⟩
   ·have l : Hid (s≠⟨#[46]⟩ ∧ s≠⟨#[46,46]⟩) := ⟨h2,h3⟩;have z:=MQ.2 (mf h2);have A:=MQ.2 (mf h3);clear h1 h2 h3;go_enter Tryz.func143,Tryz.ntmps143;go_wp2_with fail;refine (eD _ _ _ _ c).mono ?_;rintro e w' ⟨rfl,v⟩;obtain rfl:w=w':=v.symm;go_wp2;go_loopw [4] (λ_ j=>∃ pos:Nat,pos<=s.size/\j=w.iter s pos/\Nm.clean s pos) (λ_ j=>s.size-j.iterPos w.1.size)
    case atStart=>exact⟨0,MV _,rfl,Nm.pw s⟩
    case round =>
     obtain⟨pos,x,rfl,o⟩:=hrel;have m:Hid _:=o;clear o
     by_cases hp:pos<s.size
     ·have f:∀ g,(Instr.next (.pointer (some ⟨w.1.size,0,none⟩)) true g).run Tryz.prog (w.iter s pos)=_:=λg=>run_next_any w s pos g hp
      obtain⟨y,i,-⟩:=Nm.jZ s pos hp;obtain⟨p,q⟩:=Nm.k9 s pos hp;have t:Hid ((Utf8.decode s pos).1≠47->(Utf8.decode s pos).1≠0->Nm.clean s (pos+(Utf8.decode s pos).2)):=λa b=>Nm.py hp m.out a b
      have n:Hid ((Utf8.decode s pos).1=47\/(Utf8.decode s pos).1=0->Nm.err s=409):=λa=>Nm.ir (Nm.rL hp (a.imp p.1 q.1))
      clear p q;generalize Utf8.decode s pos=d at *;obtain⟨r,k⟩:=d;simp only at *
      by_cases r1:r=47
      ·subst r1;have H:Hid _:=n.out (.inl rfl);go_wp2;go_ret;rw[H.out];exact⟨rfl,iX s _⟩
      ·by_cases r0:r=0
       ·subst r0;have H:Hid _:=n.out (.inr rfl);go_wp2;go_ret;rw[H.out];exact⟨rfl,iX s _⟩
       ·have B:=MQ.2 qo;have C:((r:Int)==0)=false:=MQ.2 (by omega);have u:Hid _:=t.out r1 r0;go_wp2
        go_roundw
        case rel=>exact⟨pos+k,i,rfl,u.out⟩
        case measure =>
         simp only[World.iterPos_iter];omega
     ·have f:∀ g,(Instr.next (.pointer (some ⟨w.1.size,0,none⟩)) true g).run Tryz.prog (w.iter s pos)=_:=λg=>run_next_end w s pos g hp
      have H:Hid _:=Nm.jP ⟨by have:=c.out.1;omega,by have:=c.out.2;omega,l.out.1,l.out.2,by
       have:=m.out
       rwa [show pos=s.size by omega]at this⟩
      go_wp2;go_ret;rw[H.out];exact⟨rfl,iX s _⟩
 ·have H:Hid (Nm.err s=409):=Nm.ir λh=>h1 ⟨by have:=h.1;omega,by have:=h.2.1;omega⟩
  have c:Hid _:=h1;rw[H.out];clear h1;go_enter Tryz.func143,Tryz.ntmps143;go_wp2_with fail;refine (il _ _ _ _ c).mono ?_;rintro e w' ⟨rfl,rfl⟩;go_wp2;go_ret;exact⟨rfl,MJ _ _⟩
end
section
open ChangeShapes WideShapes ChangeAt RowKit Deep Maps Go.WideMaps
theorem LZ:Keyed Tryz.prog 9:=string_keyed Tryz.underlying9
theorem rF (t:TypeId)(k e:TypeId)(ht:Tryz.prog.underlying t=some (.map k e))(w)(n):(Instr.makeMap t (some (.int .i64 n))).run Tryz.prog w=.ok (.map (some w.1.size)) (w.alloc (.map #[] 0)):=by
 simp[Instr.makeMap,run_underlying ht,asInt,asIntOf]
abbrev VD (v:Value) (next:Int):Value:=.agg #[v,.int .i64 next]
abbrev BD (v:Value) (next:Int):Obj:=.cells #[v,.int .i64 next] 155
abbrev BE (x:eA):Obj:=.cells #[.string x.1,.int .i64 x.2.1,.int .i64 x.2.2.1,.int .i64 x.2.2.2] 116
theorem Jg (w:World){b:Nat}(h:w.heap.size=b):Hid ((w.alloc (.map #[] 0)).ownsMap Tryz.prog 9 (unitElem (H:=Unit)) b 0 (.map [])):=h ▸ World.ownsMap_made w _ _ _
theorem wJ {w wr:World}{v:Value}{next:Int}(h:Below (w.1.size+1) (w.alloc (BD v next)) wr):wr.cell? ⟨w.1.size,0,none⟩=some v/\wr.cell? ⟨w.1.size,1,none⟩=some (.int .i64 next):=by
 rw[h.cell (p:=⟨w.1.size,0,none⟩) qs,h.cell (p:=⟨w.1.size,1,none⟩) qs];have a:=MD w (BD v next);constructor <;> simp only[World.cell?,a] <;> rfl
theorem gC {w wr w1:World}{v:Value}{next:Int}(_:Below (w.1.size+1) (w.alloc (BD v next)) wr)(h:Below (w.1.size+1) (w.alloc (BD v next)) w1):Bw w w1 :=
 ⟨h.os,h.tape,h.output,by have:=h.size;simp at this;omega,λk a=>(h.block k qo).trans (((MJ w.1.size w).alloc qn (BD v next)).block k a)⟩
theorem dh {w1:World}{p:Nat}(hp:p<w1.1.size)(o)(j):(w1.alloc o).cell? ⟨p,j,none⟩=w1.cell? ⟨p,j,none⟩:=((MJ w1.1.size w1).alloc qn o).cell (p:=⟨p,j,none⟩) hp
theorem D6 {w wr:World}{v:Value}{next:Int}{b off k:Nat}{x:eA}(h:Below (w.1.size+1) (w.alloc (BD v next)) wr)(hB:b<w.1.size)(hc:∀ j u,(EE.cells x)[j]?=some u->w.cell? ⟨b,off+(k*EE.sz+j),none⟩=some u) :
  wr.cell? ⟨b,off+k*4,none⟩=some (.string x.1)/\wr.cell? ⟨b,off+k*4+1,none⟩=some (.int .i64 x.2.1)/\wr.cell? ⟨b,off+k*4+2,none⟩=some (.int .i64 x.2.2.1)/\wr.cell? ⟨b,off+k*4+3,none⟩=some (.int .i64 x.2.2.2):=by
 have e:∀ o,wr.cell? ⟨b,o,none⟩=w.cell? ⟨b,o,none⟩:=λo=>(h.cell (p:=⟨b,o,none⟩) (by show b<_;omega)).trans (((MJ w.1.size w).alloc qn _).cell (p:=⟨b,o,none⟩) hB)
 have a:=λj u c=>(e _).trans (hc j u c)
 exact⟨a 0 _ rfl,a 1 _ rfl,a 2 _ rfl,a 3 _ rfl⟩
theorem behind {w wr w1:World}{v:Value}{next:Int}(h:Below (w.1.size+1) (w.alloc (BD v next)) wr)(hws:w.1.size+1<=wr.1.size)(x)(hb:Below (wr.alloc (BE x)).1.size (wr.alloc (BE x)) w1) :
  w1.cell? ⟨wr.1.size,0,none⟩=some (.string x.1)/\w1.cell? ⟨wr.1.size,1,none⟩=some (.int .i64 x.2.1)/\w1.cell? ⟨wr.1.size,2,none⟩=some (.int .i64 x.2.2.1)/\w1.cell? ⟨wr.1.size,3,none⟩=some (.int .i64 x.2.2.2) /\
   w1.cell? ⟨w.1.size,0,none⟩=some v/\w1.cell? ⟨w.1.size,1,none⟩=some (.int .i64 next)/\Hid (wr.grownBy w1 none)/\wr.1.size+1<=w1.1.size:=by
 have b:=cQ (MU wr (BE x) none) (cP hb none);have a:wr.1.size+1<=w1.1.size:=by have:=hb.size;simpa using this
 have c:=h.grown b hws (λk i=>by cases i);have e:∀ o,w1.cell? ⟨wr.1.size,o,none⟩=(wr.alloc (BE x)).cell? ⟨wr.1.size,o,none⟩:=λo=>hb.cell (p:=⟨wr.1.size,o,none⟩) qs
 obtain⟨f,g⟩:=wJ c;have d:=MD wr (BE x);refine⟨?_,?_,?_,?_,f,g,b,a⟩ <;> rw[e] <;> simp only[World.cell?,d] <;> rfl
theorem fR (v )(l )(next )(w )(hv : ey EE w v l)(hs : ∀ x ∈ l, x.1.size ≤ maxLen) :
  Calls Tryz.prog 103 #[VD v next] w λe w'=>e=.returned (.int .i64 (Fo.err l next))/\Bw w w':=by
 obtain⟨ao,G,rfl,hm,hx⟩:=hv.open;clear hv;unfold maxLen at hm;obtain⟨n,hn⟩:=qE l.length;rw[hn]at hm |-;have T:Hid _:=hn;have HX:Hid _:=hx;have HS:Hid _:=hs;clear hn hx hs
 by_cases h1:0<=next/\next<=1099511627776
 ·have O : Hid (0 ≤ next ∧ next ≤ 1099511627776) := h1;have ai:=rF 177 9 178 qk;go_enter Tryz.func103,Tryz.ntmps103;go_wp2_with fail;refine (eD _ _ _ _ O.out).mono ?_;rintro e w' ⟨rfl,rfl⟩;go_wp2;go_loopw [3,18] (λt i wr=>∃ k:Nat,k<=n/\i=.int .i64 k/\t=.int .i64 (Fo.o4 l k)/\Hid (Fo.Kw next l k)/\Hid (wr.ownsMap Tryz.prog 9 unitElem (w.1.size+1) k (Fo.Sn (H:=Unit) l k))/\Hid (Below (w.1.size+1) (w.alloc (BD (.slice ao n G) next)) wr)) (λ_ i _=>n-(intOf i).toNat)
  case atStart=>exact⟨0,MV _,rfl,rfl,Fo.GC _ _,by rw[Fo.Iv];exact Jg (w.alloc (BD (.slice ao n G) next)) (by simp),(MJ _ _).alloc (by simp) _⟩
  case round =>
   obtain⟨k,hk,rfl,rfl,HP,S,a⟩:=hrel;obtain⟨ac,ad⟩:=wJ a;have f:w.1.size+1<=wr.1.size:=by have:=a.out.size;simpa using this
   obtain⟨af,ag⟩:=Fo.uB HP (by rw[T.out];exact hk) O.out.1;have aj:=O.out.2;obtain⟨V,I⟩:=qE (Fo.o4 l k);rw[I]at af ag |-;have P:Hid _:=I;clear I h1
   by_cases hlt:k<n
   ·obtain⟨x,z⟩:∃ x,l[k]?=some x:=⟨_,MF (by rw[T.out];exact hlt)⟩;have o:Hid _:=z;obtain⟨b,A,rfl,-,hB,hc⟩:=HX.out k x z;obtain⟨c0,c1,c2,c3⟩:=D6 a hB hc;have p:Hid _:=HS.out x (MG z);clear hc z;obtain⟨q,s,g,m⟩:=x;simp only at c0 c1 c2 c3 p;have ah:=qo
    by_cases g1:Nm.ok q
    ·have Q:Hid _:=Nm.jP g1
     by_cases g2:V+1<=s/\s<=next
     ·have U:Hid _:=g2
      by_cases g3:Ho g m
      ·have G3:Hid _:=g3;have HG:Hid _:=Fo.FJ HP λy hy=>by
        rw[o.out]at hy
        cases hy
        exact⟨g1,by rw[P.out];exact g2,g3⟩
       have Y:Hid _:=MT g3;clear g1 g2 g3;go_wp2_with fail;refine (jl q _ p).mono ?_;rintro e w1 ⟨rfl,r⟩;rw[Q.out];obtain⟨J,K,L,M,W,X,d,B⟩:=behind a f (q,s,g,m) r;simp only at J K L M;clear r;go_wp2_with fail;refine (eD _ _ _ _ U).mono ?_;rintro e F ⟨rfl,rfl⟩;go_wp2_with fail;refine (j9 g m _).mono ?_;rintro e F ⟨rfl,rfl⟩;rw[Y.out];have c:=S.out.kept (cQ d (MU F (oS g m) none)) qs;have Z:Hid (Below (w.1.size+1) (w.alloc (BD (.slice (some ⟨b,A,none⟩) n G) next)) (F.alloc (oS g m))):=(a.grown d f (λj E=>by cases E)).alloc (by omega) _;rw[<-dh qo (oS g m)]at J K W;have aa:w.1.size+1<=(F.alloc (oS g m)).1.size:=qt
       clear L M X d B ac ad c0 c1 c2 c3;generalize F.alloc (oS g m)=w3 at *;have R:=keyOf_string_mk Tryz.underlying9 p
       go_wp2_with (first
        | (at_mapUpdate;refine wpList_mapUpdate_own _ rfl _ _ _ 177 rfl 9 178 LZ qk (unitElem (H:=Unit)) (w.1.size+1) k _ rfl c (by unfold maxLen;omega) _ _ _ rfl rfl R _ [] unitElem_mk ?_;intro w5 N C)
        | go_in)
       go_roundw
       case rel=>exact⟨k+1,qo,by go_num,by rw[Fo.ld o],HG,by rw[Fo.JA o];exact N,Z.out.grown C aa (λj E=>by cases E;exact MI _)⟩
       case measure=>simp[intOf];omega
      ·have Y:Hid (decide (Ho g m)=false):=MO g3;have H:Hid (Fo.err l next=4):=Fo.tV o.out λh=>g3 h.2.2
       clear g1 g2 g3;go_wp2_with fail;refine (jl q _ p).mono ?_;rintro e w1 ⟨rfl,r⟩;rw[Q.out];obtain⟨J,K,L,M,W,X,d,B⟩:=behind a f (q,s,g,m) r;simp only at J K L M;clear r;go_wp2_with fail;refine (eD _ _ _ _ U).mono ?_;rintro e F ⟨rfl,rfl⟩;go_wp2_with fail;refine (j9 g m _).mono ?_;rintro e F ⟨rfl,rfl⟩;rw[Y.out];go_wp2;go_ret;rw[H.out];exact⟨rfl,gC a ((a.grown d f (λj E=>by cases E)).alloc qo _)⟩
     ·have U:Hid _:=g2;have H:Hid _:=Fo.tV o λh=>g2 (by have:=h.2.1;rw[P.out]at this;exact this)
      clear g1 g2;go_wp2_with fail;refine (jl q _ p).mono ?_;rintro e w1 ⟨rfl,r⟩;rw[Q.out];obtain⟨J,K,L,M,W,X,d,B⟩:=behind a f (q,s,g,m) r;simp only at J K L M;clear r;go_wp2_with fail;refine (il _ _ _ _ U.out).mono ?_;rintro e F ⟨rfl,rfl⟩;go_wp2;go_ret;rw[H.out];exact⟨rfl,gC a (a.grown d.out f (λj E=>by cases E))⟩
    ·have Q:Hid (Nm.err q=409):=Nm.ir g1;have H:Hid (Fo.err l next=4):=Fo.tV o.out λh=>g1 h.1
     clear g1;go_wp2_with fail;refine (jl q _ p).mono ?_;rintro e w1 ⟨rfl,r⟩;rw[Q.out];obtain⟨J,K,L,M,W,X,d,B⟩:=behind a f (q,s,g,m) r;clear r;go_wp2;go_ret;rw[H.out];exact⟨rfl,gC a (a.grown d f (λj E=>by cases E))⟩
   ·obtain rfl:k=n:=qo
    have u:Hid (Fo.err l next=if Maps.size (Fo.Sn (H:=Unit) l k)<k then 4 else 0):=by
     have:=Fo.I8 O (l:=l) (by rw[T.out];exact HP)
     rwa [T.out]at this
    have c:=S.out;obtain⟨D,hD⟩:∃ D,Fo.Sn (H:=Unit) l k=D:=⟨_,rfl⟩;rw[hD]at u c;have ak:=c.size_le
    by_cases hz:Maps.size D<k
    ·have ab:(Maps.size D:Int)<(k:Int):=qo
     have H:Hid (Fo.err l next=4):=by
      have:=u.out
      rwa [MC hz]at this
     go_wp2_with (first
      | (at_len;refine wpList_len_own _ rfl _ 177 rfl 9 178 (by kernel_rfl) _ (w.1.size+1) k _ rfl c ?_)
      | go_in)
     go_ret;rw[H.out];exact⟨rfl,gC a a⟩
    ·have ab:¬ (Maps.size D:Int)<(k:Int):=qo
     have H:Hid (Fo.err l next=0):=by
      have:=u.out
      rwa [ME hz]at this
     go_wp2_with (first
      | (at_len;refine wpList_len_own _ rfl _ 177 rfl 9 178 (by kernel_rfl) _ (w.1.size+1) k _ rfl c ?_)
      | go_in)
     go_ret;rw[H.out];exact⟨rfl,gC a.out a.out⟩
 ·have O:Hid (¬ (0<=next/\next<=1099511627776)):=h1;have H:Hid (Fo.err l next=4):=Fo.ir λh=>h1 h.1
  rw[H.out];clear h1;go_enter Tryz.func103,Tryz.ntmps103;go_wp2_with fail;refine (il _ _ _ _ O).mono ?_;rintro e w' ⟨rfl,rfl⟩;go_wp2;go_ret;exact⟨rfl,qG _ _⟩
end
section
open ChangeShapes WideShapes ChangeAt RowKit Deep It
theorem sN (lo x hi)(w):Calls Tryz.prog 215 #[.int .i64 lo,.int .i64 x,.int .i64 hi] w λe w'=>e=.returned (.bool (decide (lo<=x/\x<=hi)))/\w'=w:=by
 by_cases h1:lo<=x
 ·by_cases h2 : x ≤ hi
  ·rw[MT (show lo ≤ x ∧ x ≤ hi from⟨h1,h2⟩)]
   go_enter Tryz.func215,Tryz.ntmps215;go_wp2;go_ret;exact⟨rfl,rfl⟩
  ·rw[MO (show ¬ (lo ≤ x ∧ x ≤ hi) from λh => h2 h.2)]
   go_enter Tryz.func215,Tryz.ntmps215;go_wp2;go_ret;exact⟨rfl,rfl⟩
 ·rw[MO (show ¬ (lo ≤ x ∧ x ≤ hi) from λh => h1 h.1)]
  go_enter Tryz.func215,Tryz.ntmps215;go_wp2;go_ret;exact⟨rfl,rfl⟩
abbrev jC (x:Rw):Obj:=B8 x.i.gen x.i.kind x.i.cH x.i.size x.i.cF (.slice x.rp x.rn x.rc) (.slice x.ep x.en x.ec) x.i.next
theorem fk (x)(w):Calls Tryz.prog 102 #[VI x] w λe w'=>e=.returned (.bool (x.i.kind==2))/\w'=w.alloc (jC x):=by
 go_enter Tryz.func102,Tryz.ntmps102;go_wp2;go_ret;exact⟨rfl,rfl⟩
theorem kN (x)(w):Calls Tryz.prog 104 #[VI x] w λe w'=>e=.returned (VD (.slice x.ep x.en x.ec) x.i.next)/\Bw w w':=by
 obtain⟨⟨c,d,f,g,h,j,a,b⟩,-⟩:=dV (MD w (jC x));have k:=(dh qs (.cells #[.slice none 0 0,.int .i64 0] 155) 6).trans a;have l:=(dh qs (.cells #[.slice none 0 0,.int .i64 0] 155) 7).trans b;clear c d f g h j a b;go_enter Tryz.func104,Tryz.ntmps104;go_wp2
 refine MK (v:=VD (.slice x.ep x.en x.ec) x.i.next) ?_ rfl ⟨rfl,?_⟩
 ·rw[cN rfl]
  go_simp
 ·exact (qG _ _).alloc qs _
namespace Sp
def fold (x:cL):Prop:=x.kind=2->Fo.fE x.cE x.next/\x.size=x.cE.length
def oV (L:List cL):Prop:=∀ x∈L,fold x
open Classical in
noncomputable def lU (L:List cL):Bool:=decide (oV L)
open Classical in
theorem BK {L:List cL}(h:oV L):lU L=true:=by
 unfold lU;exact MT h
open Classical in
theorem DZ {L:List cL}(h:¬ oV L):lU L=false:=by
 unfold lU;exact MO h
def m6 (L:List Rw):Prop:=∀ x∈L,∀ e∈x.i.cE,e.1.size<=maxLen
end Sp
theorem Ay {w wr:World}{b o:Nat}{x:Rw}(h:eight w b o x)(hb:Bw w wr)(hB:b<w.1.size):eight wr b o x:=h.below hb hB
theorem iE {S:Nat->Prop}(v)(L)(w)(hv:cD S w v L)(eE:Sp.m6 L) :
  Calls Tryz.prog 62 #[v] w λe w'=>e=.returned (.bool (Sp.lU (pl L)))/\Bw w w':=by
 obtain⟨ao,ab,rfl,hm,W⟩:=hv.open;clear hv;unfold maxLen at hm;obtain⟨n,hn⟩:=qE L.length;rw[hn]at hm |-;have HN:Hid _:=hn;have HX:Hid _:=W;have X:Hid _:=eE;obtain⟨r,hr⟩:=qE (Sp.lU (pl L));rw[hr];have HR:Hid _:=hr;clear hn W hr eE;go_enter Tryz.func62,Tryz.ntmps62;go_wp2;go_loopw [7] (λi wr=>∃ k:Nat,k<=n/\i=.int .i64 k/\Hid (∀ y∈L.take k,Sp.fold y.i)/\Hid (Bw w wr)) (λi _=>n-(intOf i).toNat)
 case atStart=>exact⟨0,MV _,rfl,λy K=>(by simp at K),MJ _ _⟩
 case round =>
  obtain⟨k,hk,rfl,HP,V⟩:=hrel;have Z:=V.out.size
  by_cases hlt:k<n
  ·obtain⟨x,M⟩:∃ x,L[k]?=some x:=⟨_,MF (by rw[HN.out];exact hlt)⟩;have U:Hid _:=M;obtain⟨⟨b,ad,rfl,hB,hc⟩,hg⟩:=HX.out k x M;obtain⟨c0,c1,c2,c3,c4,c5,c6,c7⟩:=hc.below V.out hB;have HG:Hid (Good S (wr.alloc (jC x)) x):=(hg.up V.out).up (qG _ _);have Q:Hid _:=X.out x (MG M);have aa:(k:Int)<(n:Int):=by omega
   have l:Hid (Bw w (wr.alloc (jC x))):=V.out.alloc Z _;have T:Hid _:=hg.len.2;have O:Hid (Sp.fold x.i->∀ y∈L.take (k+1),Sp.fold y.i):=λh y K=>by
    rw[NF,U.out]at K;rcases Na.1 K with K | K
    ·exact HP y K
    ·simp at K;subst K;exact h
   have P:Hid (¬ Sp.fold x.i->r=false):=λh=>by
    rw[<-HR.out];exact Sp.DZ λha=>h (ha x.i (List.mem_map_of_mem (MG U)))
   obtain⟨⟨t,u,z,A,B,C,D,E⟩,-⟩:=dV (MD wr (jC x));clear hc hg M
   by_cases hkd:x.i.kind=2
   ·have F:(x.i.kind==2)=true:=by simp[hkd]
    rcases Fo.og x.i.cE x.i.next with ⟨R,s⟩ | ⟨R,s⟩
    ·have Y:Hid _:=R
     by_cases hs:x.i.size=(x.en:Int)
     ·have HY:Hid _:=O.out λ_=>⟨s,by rw[hs,T.out]⟩
      have ac:(x.i.size != (x.en:Int))=false:=by simp[hs]
      clear R s hs hkd;go_wp2_with fail;refine (fk x _).mono ?_;rintro e q ⟨rfl,p⟩;rw[F];have a:Below (wr.alloc (jC x)).1.size (wr.alloc (jC x)) q:=by rw[p];exact qG _ _
      have g:Hid _:=l.out.trans (a.mono l.size);have G:Hid (Good S q x):=HG.out.up a;have d:Hid (q.1[wr.1.size]?=some (jC x)):=(a.block _ (by simp)).trans (MD wr (jC x));clear p a t u z A B C D E;obtain ⟨⟨t,u,z,A,B,C,D,E⟩,-⟩:=dV d.out;go_wp2_with fail;refine (kN x _).mono ?_;rintro e N ⟨rfl,c⟩;have m:Hid (Bw w N):=g.out.trans (c.mono g.out.size);have I:Hid (Good S N x):=G.out.up c;have o:Hid _:=(c.block _ (qL d)).trans d;clear c t u z A B C D E;go_wp2_with fail;refine (fR _ x.i.cE x.i.next _ I.out.2.1.wide Q).mono ?_;rintro e w4 ⟨rfl,f⟩;rw[Y.out];have J:Hid _:=m.out.trans (f.mono m.size);obtain⟨⟨t,u,z,A,B,C,D,E⟩,-⟩:=dV ((f.block _ (qL o)).trans o);clear f;go_wp2
      go_roundw
      case rel=>exact⟨k+1,qo,by go_num,HY,J⟩
      case measure=>simp[intOf];omega
     ·have H:Hid _:=P.out λh=>hs (by rw[(h hkd).2,T.out])
      have ac:(x.i.size != (x.en:Int))=true:=by simp[hs]
      clear R s hs hkd;go_wp2_with fail;refine (fk x _).mono ?_;rintro e q ⟨rfl,p⟩;rw[F];have a:Below (wr.alloc (jC x)).1.size (wr.alloc (jC x)) q:=by rw[p];exact qG _ _
      have g:Hid _:=l.out.trans (a.mono l.size);have G:Hid (Good S q x):=HG.out.up a;have d:Hid (q.1[wr.1.size]?=some (jC x)):=(a.block _ (by simp)).trans (MD wr (jC x));clear p a t u z A B C D E;obtain ⟨⟨t,u,z,A,B,C,D,E⟩,-⟩:=dV d.out;go_wp2_with fail;refine (kN x _).mono ?_;rintro e N ⟨rfl,c⟩;have m:Hid (Bw w N):=g.out.trans (c.mono g.out.size);have I:Hid (Good S N x):=G.out.up c;have o:Hid _:=(c.block _ (qL d)).trans d;clear c t u z A B C D E;go_wp2_with fail;refine (fR _ x.i.cE x.i.next _ I.out.2.1.wide Q).mono ?_;rintro e w4 ⟨rfl,f⟩;rw[Y.out];have J:Hid _:=m.out.trans (f.mono m.size);obtain⟨⟨t,u,z,A,B,C,D,E⟩,-⟩:=dV ((f.block _ (qL o)).trans o);clear f;go_wp2;go_ret;rw[H.out];exact⟨rfl,J⟩
    ·have Y:Hid _:=R;have H:Hid _:=P.out λh=>s (h hkd).1
     clear R s hkd;go_wp2_with fail;refine (fk x _).mono ?_;rintro e q ⟨rfl,p⟩;rw[F];have a:Below (wr.alloc (jC x)).1.size (wr.alloc (jC x)) q:=by rw[p];exact qG _ _
     have g:Hid _:=l.out.trans (a.mono l.size);have G:Hid (Good S q x):=HG.out.up a;have d:Hid (q.1[wr.1.size]?=some (jC x)):=(a.block _ (by simp)).trans (MD wr (jC x));clear p a t u z A B C D E;obtain ⟨⟨t,u,z,A,B,C,D,E⟩,-⟩:=dV d.out;go_wp2_with fail;refine (kN x _).mono ?_;rintro e N ⟨rfl,c⟩;have m:Hid (Bw w N):=g.out.trans (c.mono g.out.size);have I:Hid (Good S N x):=G.out.up c;have o:Hid _:=(c.block _ (qL d)).trans d;clear c t u z A B C D E;go_wp2_with fail;refine (fR _ x.i.cE x.i.next _ I.out.2.1.wide Q).mono ?_;rintro e w4 ⟨rfl,f⟩;rw[Y.out];have J:Hid _:=m.out.trans (f.mono m.size);obtain⟨⟨t,u,z,A,B,C,D,E⟩,-⟩:=dV ((f.block _ (qL o)).trans o);clear f;go_wp2;go_ret;rw[H.out];exact⟨rfl,J⟩
   ·have F:=MQ.2 hkd;have HY:Hid (∀ y∈L.take (k+1),Sp.fold y.i):=O.out λh=>absurd h hkd
    clear hkd;go_wp2_with fail;refine (fk x _).mono ?_;rintro e q ⟨rfl,rfl⟩;have g:Hid (Bw w ((wr.alloc (jC x)).alloc (jC x))):=l.out.alloc l.size _;rw[F];go_wp2
    go_roundw
    case rel=>exact⟨k+1,qo,by go_num,HY,g⟩
    case measure=>simp[intOf];omega
  ·obtain rfl:k=n:=qo
   have H:Hid (r=true):=by
    rw[<-HR.out];refine Sp.BK λy K=>?_
    obtain⟨x,W,rfl⟩:=NI.1 K;exact HP x (by rw[<-HN.out,Ns];exact W)
   go_wp2;go_ret;rw[H.out];exact⟨rfl,V⟩
end
section
open ChangeShapes WideShapes ChangeAt RowKit Deep It
abbrev ll (h:Int × Int):Value:=.agg #[.int .i64 h.1,.int .i64 h.2]
theorem Bv (w)(a b:Int × Int):(Op.equal 57 (ll a) (ll b)).run Tryz.prog w=.ok (a==b) w:=by
 have d:(binOp .eql 57 (ll a) (ll b)).run Tryz.prog w=.ok (.bool (a==b)) w:=by
  obtain⟨f,g⟩:=a;obtain⟨h,i⟩:=b;have e:((f,g)==(h,i))=((f==h)&&(g==i)):=rfl;rw[e]
  cases h0:(f==h) <;> cases d:(g==i) <;> go_simp <;> simp[h0,d]
 have c:(binOp .eql 57 (ll a) (ll b)).run Tryz.prog w=((Op.equal 57 (ll a) (ll b)).run Tryz.prog w).andThen λr j=>.ok (.bool r) j:=by
  unfold binOp;simp only[Sem.run_bind,Sem.run_pure]
 rw[d]at c;generalize (Op.equal 57 (ll a) (ll b)).run Tryz.prog w=r at c
 cases r with
 | ok x j =>
  simp only[Result.andThen,Result.ok.injEq,Value.bool.injEq]at c;rw[c.1,c.2]
 | halt x j=>cases c
theorem o7 (w)(em)(a:Int × Int):(Instr.checkKey em 10000 57 (ll a)).run Tryz.prog w=.ok () w:=by
 have b:∀ x:Int,(Instr.checkKey em 9999 3 (.int .i64 x)).run Tryz.prog w=.ok () w:=λx=>by
  rw[show (9999:Nat)=9998+1 from rfl];unfold Instr.checkKey;simp only[Sem.run_bind,run_underlying Tryz.underlying3,Result.andThen,Sem.run_pure]
 have c:(part 3 #[.int .i64 a.1,.int .i64 a.2] 0).run Tryz.prog w=.ok (.int .i64 a.1) w:=by go_simp
 have d:(part 3 #[.int .i64 a.1,.int .i64 a.2] 1).run Tryz.prog w=.ok (.int .i64 a.2) w:=by go_simp
 rw[show (10000:Nat)=9999+1 from rfl];unfold Instr.checkKey;simp only[Sem.run_bind,run_underlying Tryz.underlying57,Result.andThen];simp only[List.forIn_toArray,List.forIn_cons,List.forIn_nil];simp[b,c,d,Sem.run_bind,Result.andThen]
structure HM (w:World) (r:Nat) (M:List ((Int × Int) × Int)):Prop where
 out:∃ es clock,w.1[r]?=some (.map es clock)/\es.toList.map (λe=>(e.key,e.val))=M.map (λp=>(ll p.1,.int .i64 p.2))/\(es.toList.map (·.born)).Nodup/\∀ b∈es.toList.map (·.born),b<clock
def jg:List ((Int × Int) × Int)->(Int × Int)->Nat->Option (Nat × Int)
 | [],_,_=>none
 | p::M,h,i=>if h==p.1 then some (i,p.2) else jg M h (i+1)
def iN (M:List ((Int × Int) × Int)) (h:Int × Int):Int:=match jg M h 0 with | some p=>p.2 | none=>0
def km (M:List ((Int × Int) × Int)) (h:Int × Int) (v:Int):List ((Int × Int) × Int):=match jg M h 0 with | some p=>M.set p.1 (h,v) | none=>M++[(h,v)]
theorem jK:∀ (M:List ((Int × Int) × Int)) (h:Int × Int) (i:Nat) (j:Nat) (v:Int),jg M h i=some (j,v)->i<=j/\M[j-i]?=some (h,v)
 | [],_,_,_,_,e=>by cases e
 | p::M,h,i,j,v,e => by
  unfold jg at e
  by_cases hp:(h==p.1)=true
  ·rw[MC hp]at e
   cases e
   refine⟨qn,?_⟩;rw[Nat.sub_self,List.getElem?_cons_zero];have:h=p.1:=by simpa using hp
   rw[this]
  ·rw[ME hp]at e;obtain⟨b,a⟩:=jK M h (i+1) j v e;refine⟨qo,?_⟩;rw[show j-i=(j-(i+1))+1 by omega,List.getElem?_cons_succ];exact a
theorem pB:∀ (M:List ((Int × Int) × Int)) (h:Int × Int) (i:Nat),jg M h i=none->∀ p∈M,p.1≠h
 | [],_,_,_,p,hp=>by cases hp
 | q::M,h,i,e,p,hp => by
  unfold jg at e
  by_cases hq:(h==q.1)=true
  ·rw[MC hq]at e
   cases e
  ·rw[ME hq]at e;rcases Ni.1 hp with rfl | hp
   ·intro e2;exact hq (by simp[e2])
   ·exact pB M h (i+1) e p hp
theorem Dh {M:List ((Int × Int) × Int)}(hn:(M.map (·.1)).Nodup){p:(Int × Int) × Int}(hp:p∈M):∃ j,jg M p.1 0=some (j,p.2):=by
 cases e:jg M p.1 0 with
 | none=>exact absurd rfl (pB M p.1 0 e p hp)
 | some q =>
  obtain⟨j,v⟩:=q;obtain⟨_,a⟩:=jK M p.1 0 j v e;obtain⟨k,b⟩:=M1.1 hp;have c:=(qM a);have d:=(qM b);have:j=k:=by
   have f:(M.map (·.1))[j]?=(M.map (·.1))[k]?:=by
    rw[Nh,Nh,b];rw[Nat.sub_zero]at a;rw[a];rfl
   exact (List.getElem?_inj (by rw[M8];simpa using c) hn).1 f
  subst this;rw[Nat.sub_zero,b]at a;have g:=Ox Prod.snd (Option.some.inj a);exact⟨j,by rw[g]⟩
theorem l5 {M:List ((Int × Int) × Int)}(hn:(M.map (·.1)).Nodup){p:(Int × Int) × Int}(hp:p∈M):iN M p.1=p.2:=by
 obtain⟨j,a⟩:=Dh hn hp;unfold iN;rw[a]
theorem qO {M:List ((Int × Int) × Int)}{h:Int × Int}(hp:∀ p∈M,p.1≠h):iN M h=0:=by
 unfold iN
 cases e:jg M h 0 with
 | none=>rfl
 | some q =>
  obtain⟨_,a⟩:=jK M h 0 q.1 q.2 e;exact absurd rfl (hp _ (MG a))
theorem kG {M:List ((Int × Int) × Int)}(hn:(M.map (·.1)).Nodup)(h:Int × Int)(v):((km M h v).map (·.1)).Nodup/\(∀ g u,(g,u)∈km M h v ↔ (g=h/\u=v)\/(g≠h/\(g,u)∈M)):=by
 unfold km
 cases e:jg M h 0 with
 | none =>
  have m:=pB M h 0 e;simp only;constructor
  ·rw[NO,List.nodup_append];refine⟨hn,qs,λa z b t=>?_⟩;obtain⟨p,x,rfl⟩:=NI.1 z;simp at t;subst t;exact m p x
  ·intro g u;rw[Na,NG,Prod.mk.injEq];constructor
   ·rintro (d | d)
    ·exact .inr ⟨m _ d,d⟩
    ·exact .inl d
   ·rintro (d | d)
    ·exact .inr d
    ·exact .inl d.2
 | some q =>
  obtain⟨j,y⟩:=q;obtain⟨_,l⟩:=jK M h 0 j y e;rw[Nat.sub_zero]at l;have s:=(qM l);have B:=(MN.1 l).2;simp only;have n:(M.set j (h,v)).map (·.1)=M.map (·.1):=by
   rw[Pd];refine OL λk=>?_
   rw[Nz];split
   ·rename_i hjk
    subst hjk;rw[Nh,l];simp[s]
   ·rfl
  refine⟨by rw[n];exact hn,λg u=>?_⟩;constructor
  ·intro o;obtain⟨k,c⟩:=M1.1 o;rw[Nz]at c;split at c
   ·(try rw[MC qo]at c)
    cases c
    exact .inl ⟨rfl,rfl⟩
   ·rename_i f
    refine .inr ⟨λA=>f ?_,MG c⟩;subst A;have w:(M.map (·.1))[j]?=(M.map (·.1))[k]?:=by rw[Nh,Nh,l,c];rfl
    exact (List.getElem?_inj (by rw[M8];exact s) hn).1 w
  ·rintro (⟨rfl,rfl⟩ | ⟨f,o⟩)
   ·exact MG (i:=j) (by rw[Ny qo])
   ·obtain⟨k,c⟩:=M1.1 o;refine MG (i:=k) ?_;rw[Oj (λr=>?_)]
    ·exact c
    ·subst r;rw[l]at c
     cases c
     exact f rfl
theorem qQ {M:List ((Int × Int) × Int)}(hn:(M.map (·.1)).Nodup)(h:Int × Int)(v)(g:Int × Int):iN (km M h v) g=if g=h then v else iN M g:=by
 obtain⟨f,a⟩:=kG hn h v
 by_cases e:g=h
 ·rw[MC e];exact l5 f (p:=(g,v)) ((a g v).2 (.inl ⟨e,rfl⟩))
 ·rw[ME e]
  by_cases hm:∃ u,(g,u)∈M
  ·obtain⟨u,i⟩:=hm;rw[l5 hn (p:=(g,u)) i,l5 f (p:=(g,u)) ((a g u).2 (.inr ⟨e,i⟩))]
  ·have j:iN M g=0:=qO (λp c d=>hm ⟨p.2,by rw[<-d];exact c⟩);have k:iN (km M h v) g=0:=qO (λp c d=>by
    subst d;rcases (a p.1 p.2).1 c with b | b
    ·exact e b.1
    ·exact hm ⟨p.2,b.2⟩)
   rw[j,k]
theorem um (w)(h:Int × Int):∀ (es:List MapEntry) (M:List ((Int × Int) × Int)) (i:Nat),es.map (λe=>(e.key,e.val))=M.map (λp=>(ll p.1,Value.int .i64 p.2))->(Instr.findAsking 57 (ll h) es i).run Tryz.prog w=.ok ((jg M h i).map λp=>(p.1,.int .i64 p.2)) w
 | [],[],i,_=>rfl
 | [],q::M,i,he=>by simp at he
 | e::es,[],i,he=>by simp at he
 | e::es,q::M,i,he => by
  simp only[List.map_cons,List.cons.injEq,Prod.mk.injEq]at he;obtain⟨⟨hk,hv⟩,hr⟩:=he;unfold Instr.findAsking;rw[hk,hv];simp only[Sem.run_bind,Bv,Result.andThen];unfold jg
  by_cases hp:(h==q.1)=true
  ·rw[MC hp,MC hp];rfl
  ·rw[ME hp,ME hp];exact um w h es M (i+1) hr
theorem run_findKey (w)(h:Int × Int)(es)(M:List ((Int × Int) × Int))(he:es.map (λe=>(e.key,e.val))=M.map (λp=>(ll p.1,Value.int .i64 p.2))):(Instr.findKey 57 (ll h) es).run Tryz.prog w=.ok ((jg M h 0).map λp=>(p.1,.int .i64 p.2)) w:=by
 unfold Instr.findKey;simp only[Sem.run_bind,run_underlying Tryz.underlying57,Result.andThen]
 cases es with
 | nil =>
  cases M with
  | nil=>rfl
  | cons q M=>simp at he
 | cons e es =>
  have a:e.key=ll (M.head?.map (·.1) |>.getD (0,0)):=by
   cases M with
   | nil=>simp at he
   | cons q M =>
    simp only[List.map_cons,List.cons.injEq,Prod.mk.injEq]at he;simpa using he.1.1
  have b:∀ d,(∃ fs,d=TypeDesc.struct fs)->Instr.findNow d (ll h) (e::es) 0=none:=λd ⟨fs,hd⟩=>by
   subst hd;unfold Instr.findNow;rw[a];rfl
  rw[b _ ⟨_,rfl⟩];exact um w h (e::es) M 0 he
theorem uq {w:World}{r:Nat}{M:List ((Int × Int) × Int)}(hm:HM w r M)(h:Int × Int):(Instr.lookup 157 (.map (some r)) (ll h) false).run Tryz.prog w=.ok (.int .i64 (iN M h)) w:=by
 obtain⟨b,a,c,d,_,_⟩:=hm.out;unfold Instr.lookup;simp only[Sem.run_bind,run_underlying Tryz.underlying157,Result.andThen,run_getObj_map w r b a c,Sem.run_pure,o7,run_findKey w h b.toList M d];unfold iN
 cases jg M h 0 with
 | none =>
  simp only[Option.map_none,Sem.run_bind,Sem.run_pure,Result.andThen]
  go_simp
 | some p =>
  simp only[Option.map_some,Sem.run_bind,Sem.run_pure,Result.andThen];rfl
theorem Dn (h:Int × Int):Instr.sameBits 10000 (ll h) (ll h)=true:=by
 rw[show (10000:Nat)=9999+1 from rfl];simp[Instr.sameBits]
theorem vk (w)(h:Int × Int):(Instr.keyThatStays (ll h) (ll h)).run Tryz.prog w=.ok (ll h) w:=by
 unfold Instr.keyThatStays;rw[MC (Dn h)];rfl
theorem iW {w:World}{r:Nat}{es:Array MapEntry}{clock:Nat}(hr:w.1[r]?=some (.map es clock))(o):(setObj r o).run Tryz.prog w=.ok () (w.putObj r o):=by
 simp[setObj,Sem.run,hr,World.putObj]
theorem ie {β:Type}{es:Array MapEntry}{i:Nat}{e:MapEntry}(he:es[i]?=some e)(f:MapEntry->MapEntry)(g:MapEntry->β):(es.modify i f).toList.map g=(es.toList.map g).set i (g (f e)):=by
 refine OL λk=>?_
 have a:=(qL he);rw[Nh,Nw,NN,Nz]
 by_cases hk:i=k
 ·subst hk;rw[MC rfl,MC rfl,he];simp[a]
 ·rw[ME hk,ME hk,Nh,Nw]
theorem od {β:Type}{l:List β}{i:Nat}{x:β}(h:l[i]?=some x):l.set i x=l:=by
 refine OL λk=>?_
 rw[Nz];split
 ·rename_i e
  subst e;rw[h];simp[(qM h)]
 ·rfl
theorem G4 {es:Array MapEntry}{M:List ((Int × Int) × Int)}(he:es.toList.map (λe=>(e.key,e.val))=M.map (λp=>(ll p.1,Value.int .i64 p.2))){i:Nat}{h:Int × Int}{v:Int}(hi:M[i]?=some (h,v)):∃ e,es[i]?=some e/\e.key=ll h/\e.val=.int .i64 v:=by
 have a:=Ox (λl=>l[i]?) he;simp only[List.getElem?_map,Array.getElem?_toList,hi,Option.map_some]at a
 cases hx:es[i]? with
 | none=>rw[hx]at a;cases a
 | some e =>
  rw[hx]at a;simp only[Option.map_some,Option.some.injEq,Prod.mk.injEq]at a;exact⟨e,rfl,a.1,a.2⟩
theorem u9 {w:World}{r:Nat}{M:List ((Int × Int) × Int)}(hm:HM w r M)(h:Int × Int)(v) :
  ∃ w',(Instr.mapUpdate 157 (.map (some r)) (ll h) (.int .i64 v)).run Tryz.prog w=.ok () w'/\HM w' r (km M h v)/\w.grownBy w' (some r):=by
 obtain⟨k,f,l,m,p,n⟩:=hm.out;have g:=(qL l);unfold Instr.mapUpdate;simp only[Sem.run_bind,run_underlying Tryz.underlying157,Result.andThen,run_getObj_map w r k f l,o7,run_findKey w h k.toList M m];unfold km
 cases hf:jg M h 0 with
 | none =>
  simp only[Option.map_none,iW l];refine⟨_,rfl,⟨_,_,World.putObj_heap_same g,?_,?_,?_⟩,grownBy_putObj' _ _ _⟩
  ·simp only[Array.toList_push,List.map_append,List.map_cons,List.map_nil,m]
  ·simp only[Array.toList_push,List.map_append,List.map_cons,List.map_nil];rw[List.nodup_append];refine⟨p,qs,λa x b c=>?_⟩;simp at c;have:=n a x;omega
  ·simp only[Array.toList_push,List.map_append,List.map_cons,List.map_nil];intro b c;rcases Na.1 c with c | c
   ·have:=n b c;omega
   ·simp at c;omega
 | some q =>
  obtain⟨i,t⟩:=q;obtain⟨_,s⟩:=jK M h 0 i t hf;rw[Nat.sub_zero]at s;obtain⟨e,d,o,u⟩:=G4 m s;simp only[Option.map_some,d,Option.getD_some,o,Sem.run_bind,vk,Result.andThen,iW l];have j:(k.modify i λe=>{ e with key:=ll h,val:=.int .i64 v }).toList.map (·.born)=k.toList.map (·.born):=by
   rw[ie d];exact od (by rw[Nh,Nw,d];rfl)
  refine⟨_,rfl,⟨_,_,World.putObj_heap_same g,?_,by rw[j];exact p,by rw[j];exact n⟩,grownBy_putObj' _ _ _⟩;rw[ie d,m,Pd]
theorem AK {w:World}{r:Nat}{o:Obj}(h:w.1[r]?=some o):w.putObj r o=w:=by
 obtain⟨b,a⟩:=MH.1 h;unfold World.putObj
 congr 1
 refine Array.ext qs λi c d=>?_
 rw[Array.getElem_setIfInBounds];split
 ·rename_i e
  subst e;exact a.symm
 ·rfl
theorem Ea {w:World}{r:Nat}{M:List ((Int × Int) × Int)}(hm:HM w r M){h:Int × Int}{i:Nat}{v:Int}(hf:jg M h 0=some (i,v)) :
  ∃ s:Nat,(∀ w',HM w' r M->w'.1[r]?=w.1[r]?->(Instr.mapEntry 157 (.map (some r)) (ll h)).run Tryz.prog w'=.ok (.tuple #[.int .i64 v,.int .i64 s]) w') /\
   ∀ w' u,w'.1[r]?=w.1[r]?->∃ w'',(Instr.entryStore 157 (.map (some r)) (.int .i64 s) (.int .i64 u)).run Tryz.prog w'=.ok () w''/\HM w'' r (km M h u)/\w'.grownBy w'' (some r):=by
 obtain⟨c,d,q,o,t,B⟩:=hm.out;obtain⟨_,y⟩:=jK M h 0 i v hf;rw[Nat.sub_zero]at y;obtain⟨e,a,f,C⟩:=G4 o y;have z:=(qL a);refine⟨e.born,λw' _ p=>?_,λw' u p=>?_⟩
 ·have b:=p.trans q;have l:(c.modify i λe=>{ e with key:=ll h })=c:=by
   refine Array.ext' ?_;have:=ie a (λe=>{ e with key:=ll h }) id;rw[List.map_id,List.map_id]at this;rw[this];refine od ?_;rw[Nw,a];rw[<-f];rfl
  unfold Instr.mapEntry;simp only[Sem.run_bind,run_underlying Tryz.underlying157,Result.andThen,run_getObj_map w' r c d b,o7,run_findKey w' h c.toList M o,hf,Option.map_some,a,Option.getD_some,f,vk,iW b,l,AK b,Sem.run_pure];rfl
 ·have b:=p.trans q;have m:=(qL b);have g:c.findIdx? (λx=>(x.born:Int)==(e.born:Int))=some i:=by
   rw[Array.findIdx?_eq_some_iff_getElem];refine⟨z,?_,λj F=>?_⟩
   ·rw[(MH.1 a).2];simp
   ·intro D;have n:(c[j]'qo).born=e.born:=by
     have E:((c[j]'qo).born:Int)=(e.born:Int):=by simpa using D
     omega
    have A:(c.toList.map (·.born))[j]?=(c.toList.map (·.born))[i]?:=by
     rw[Nh,Nh,Nw,Nw,a,Array.getElem?_eq_getElem qo];simp[n]
    have:=(List.getElem?_inj (by rw[M8,On];omega) t).1 A;omega
  unfold Instr.entryStore;simp only[Sem.run_bind,Result.andThen,run_getObj_map w' r c d b,asInt,asIntOf,Sem.run_pure,g,iW b];have k:(c.modify i λe=>{ e with val:=.int .i64 u }).toList.map (·.born)=c.toList.map (·.born):=by
   rw[ie a];exact od (by rw[Nh,Nw,a];rfl)
  refine⟨_,rfl,⟨_,_,World.putObj_heap_same m,?_,by rw[k];exact t,by rw[k];exact B⟩,grownBy_putObj' _ _ _⟩;unfold km;rw[hf,ie a,o,Pd,f]
structure HR (w:World) (r t:Nat) (M:List ((Int × Int) × Int)) (es:Array MapEntry) (seen:Array Nat):Prop where
 rows:es.toList.map (λe=>(e.key,e.val))=M.map (λp=>(ll p.1,Value.int .i64 p.2))
 born:(es.toList.map (·.born)).Nodup
 it:∃ clock,w.1[r]?=some (.map es clock)/\w.1[t]?=some (.mapIter (some r) clock seen clock)/\∀ b∈es.toList.map (·.born),b<clock
def mo (es:Array MapEntry) (seen:Array Nat):List MapEntry:=es.toList.filter λe=>!seen.contains e.born
theorem E0 {w:World}{r:Nat}{M:List ((Int × Int) × Int)}(hm:HM w r M) :
  ∃ es clock,(Instr.range 157 (.map (some r))).run Tryz.prog w=.ok (.pointer (some ⟨w.1.size,0,none⟩)) (w.alloc (.mapIter (some r) clock #[] clock))/\HR (w.alloc (.mapIter (some r) clock #[] clock)) r w.1.size M es #[]:=by
 obtain⟨es,clock,a,b,c,d⟩:=hm.out;refine⟨es,clock,?_,b,c,clock,(ML _ _ _ (qL a)).trans a,World.alloc_heap_new w _,d⟩;unfold Instr.range;simp only[Sem.run_bind,run_underlying Tryz.underlying157,Result.andThen,run_getObj_map w r es clock a,Sem.run_pure,run_newObj_alloc]
theorem Gg {w:World}{r t:Nat}{M:List ((Int × Int) × Int)}{es:Array MapEntry}{seen:Array Nat} (h:HR w r t M es seen) (ty:TypeId) :
  (mo es seen=[]/\(Instr.next (.pointer (some ⟨t,0,none⟩)) false ty).run Tryz.prog w=.ok (.tuple #[.bool false]) w) \/
  ∃ e,e∈mo es seen/\∃ p∈M,e.key=ll p.1/\e.val=.int .i64 p.2/\∃ w',(Instr.next (.pointer (some ⟨t,0,none⟩)) false ty).run Tryz.prog w=.ok (.tuple #[.bool true,ll p.1,.int .i64 p.2]) w'/\HR w' r t M es (seen.push e.born)/\w.grownBy w' (some t) /\
   (Instr.entry (.pointer (some ⟨t,0,none⟩))).run Tryz.prog w'=.ok (.tuple #[ll p.1,.int .i64 p.2]) w':=by
 obtain⟨a,j,n,s⟩:=h.it;have l:=(qL n);have f:r≠t:=λe=>by rw[e,n]at j;cases j
 rcases run_next_at (P:=Tryz.prog) w ty t r a a seen es a n j (λx y=>s x.born (NI.2 ⟨x,y,rfl⟩)) (MI _)with⟨h0,hrun⟩ | ⟨e,he,w1,hw1,hrun⟩
 ·refine .inl ⟨?_,hrun⟩;unfold mo;have:(leftOf es seen).toList=[]:=by rw[<-List.length_eq_zero_iff,On];exact h0
  simpa [leftOf]using this
 ·have g:e∈mo es seen:=by
   unfold mo;simpa [leftOf]using he
  have i:=(NK.1 g).1;obtain⟨p,o,b⟩:∃ p∈M,(ll p.1,Value.int .i64 p.2)=(e.key,e.val):=by
   have:(e.key,e.val)∈M.map (λp=>(ll p.1,Value.int .i64 p.2)):=by rw[<-h.rows];exact NI.2 ⟨e,i,rfl⟩
   obtain⟨p,o,v⟩:=NI.1 this;exact⟨p,o,v⟩
  simp only[Prod.mk.injEq]at b;have m:∀ k:Nat,w1.1[k]?=w.1[k]?:=λk=>by rcases hw1 with rfl | rfl <;> rfl
  have c:∀ k:Nat,k≠t->(ChangeMaps.setBlock w1 t (.mapIter (some r) a (seen.push e.born) a)).1[k]?=w.1[k]?:=λk u=>by
   unfold ChangeMaps.setBlock;rw[Array.getElem?_setIfInBounds_ne (Ne.symm u)];exact m k
  have d:(ChangeMaps.setBlock w1 t (.mapIter (some r) a (seen.push e.born) a)).1[t]?=some (.mapIter (some r) a (seen.push e.born) a):=by
   unfold ChangeMaps.setBlock;have:t<w1.1.size:=by rcases hw1 with rfl | rfl <;> exact l
   simp[this]
  refine .inr ⟨e,g,p,o,b.1.symm,b.2.symm,_,by rw[hrun,b.1,b.2],⟨h.rows,h.born,a,(c r f).trans j,d,s⟩,⟨?_,?_,?_,?_,λk u q=>c k (λe=>q (by rw[e]))⟩,?_⟩
  ·rcases hw1 with rfl | rfl <;> rfl
  ·rcases hw1 with rfl | rfl <;> rfl
  ·rcases hw1 with rfl | rfl <;> rfl
  ·rcases hw1 with rfl | rfl <;> simp[ChangeMaps.setBlock]
  ·rw[b.1,b.2];exact run_entry_at _ t r a seen es a e d ((c r f).trans j) i h.born
theorem A5 {es:Array MapEntry}{seen:Array Nat}{e:MapEntry}(h:e∈mo es seen):(mo es (seen.push e.born)).length<(mo es seen).length:=by
 unfold mo at h |-;have a:(es.toList.filter λx=>!(seen.push e.born).contains x.born)=((es.toList.filter λx=>!seen.contains x.born).filter λx=>!(x.born==e.born)):=by
  rw[List.filter_filter];refine OA λx _=>?_
  simp
  cases hb:decide (x.born∈seen) <;> by_cases hx:x.born=e.born <;> simp_all
 rw[a];refine Nat.lt_of_le_of_ne (OH _ _) (λb=>?_);have:=(List.length_filter_eq_length_iff.1 b) e h;simp at this
end
section
open It
namespace Sp
abbrev En:=ByteArray × Int × Int × Int
def dy (L:List cL) (no:Nat):List En:=match L[no]? with | some x=>x.cE | none=>[]
def eu (L:List cL) (no:Nat):Bool:=match L[no]? with | some x=>x.kind==2 | none=>false
def Ff (p:ByteArray) (s:ByteArray):ByteArray:=p++⟨#[47]⟩++s
def walk (L:List cL):Nat->Nat->ByteArray->List (Nat × ByteArray)
 | 0,_,_=>[]
 | f+1,no,path=>(no,path)::(dy L no).flatMap λe=>if eu L e.2.2.1.toNat then walk L f e.2.2.1.toNat (Ff path e.1) else []
def step (L:List cL) (f:Nat) (path:ByteArray) (e:En):List (Nat × ByteArray):=if eu L e.2.2.1.toNat then walk L f e.2.2.1.toNat (Ff path e.1) else []
theorem je (L)(f no)(path):walk L (f+1) no path=(no,path)::(dy L no).flatMap (step L f path):=rfl
def deep (L:List cL):Nat->Nat->Prop
 | 0,_=>False
 | f+1,no=>no<L.length/\∀ e∈dy L no,(0<=e.2.2.1/\e.2.2.1<L.length/\e.1.size<=32)/\(eu L e.2.2.1.toNat=true->deep L f e.2.2.1.toNat)
def upto (L:List cL) (f no:Nat) (path:ByteArray) (j:Nat):List (Nat × ByteArray):=(no,path)::((dy L no).take j).flatMap (step L f path)
theorem Ee (L)(f no)(path):upto L f no path 0=[(no,path)]:=by simp[upto]
theorem wX {L:List cL}{f no:Nat}{path:ByteArray}{j:Nat}{e:En}(h:(dy L no)[j]?=some e):upto L f no path (j+1)=upto L f no path j++step L f path e:=by
 unfold upto;rw[NF,h,NU];simp
theorem Fx {L:List cL}{f no:Nat}{path:ByteArray}{j:Nat}(h:(dy L no).length=j):upto L f no path j=walk L (f+1) no path:=by
 unfold upto;rw[je,<-h,Ns]
theorem AG (L)(f no)(path)(j):upto L f no path j <+: walk L (f+1) no path:=by
 unfold upto;rw[je];refine⟨((dy L no).drop j).flatMap (step L f path),?_⟩;rw[NU,<-List.flatMap_append,Nj]
theorem FY {L:List cL}{f:Nat}{path:ByteArray}{e:En}(h:eu L e.2.2.1.toNat=true):step L f path e=walk L f e.2.2.1.toNat (Ff path e.1):=MC h
theorem Eb {L:List cL}{f:Nat}{path:ByteArray}{e:En}(h:eu L e.2.2.1.toNat=false):step L f path e=[]:=by unfold step;rw[ME (by rw[h];simp)]
theorem Hg (p s):(Ff p s).size=p.size+1+s.size:=by
 unfold Ff;rw[Nv,Nv];rfl
end Sp
namespace Sp
def dk (L:List cL):List En:=L.flatMap (λx=>x.cE)
def ny (c:Nat) (e:En):Bool:=e.2.2.1==(c:Int)
theorem uA (q:En->Bool):∀ (L:List cL) (p:Nat),(dy L p).countP q<=(dk L).countP q
 | [],p=>by simp[dy]
 | x::L,0=>by
  have e:dy (x::L) 0=x.cE:=rfl;rw[e,dk,N0,NP];omega
 | x::L,p+1=>by
  have e:dy (x::L) (p+1)=dy L p:=rfl;have ih:=uA q L p;unfold dk at ih;rw[e,dk,N0,NP];omega
theorem G8 (q:En->Bool):∀ (L:List cL) (p p':Nat),p≠p'->(dy L p).countP q+(dy L p').countP q<=(dk L).countP q
 | [],p,p',_=>by simp[dy]
 | x::L,0,0,h=>absurd rfl h
 | x::L,0,p'+1,_=>by
  have e:dy (x::L) 0=x.cE:=rfl;have e':dy (x::L) (p'+1)=dy L p':=rfl;have ih:=uA q L p';unfold dk at ih;rw[e,e',dk,N0,NP];omega
 | x::L,p+1,0,_=>by
  have e:dy (x::L) 0=x.cE:=rfl;have e':dy (x::L) (p+1)=dy L p:=rfl;have ih:=uA q L p;unfold dk at ih;rw[e,e',dk,N0,NP];omega
 | x::L,p+1,p'+1,h=>by
  have e:dy (x::L) (p+1)=dy L p:=rfl;have e':dy (x::L) (p'+1)=dy L p':=rfl;have ih:=G8 q L p p' qo;unfold dk at ih;rw[e,e',dk,N0,NP];omega
structure Tree (L:List cL):Prop where
 inr:∀ p,∀ e∈dy L p,0<=e.2.2.1/\e.2.2.1<L.length/\e.1.size<=32/\e.2.2.1≠0
 one:∀ c,eu L c=true->(dk L).countP (ny c)<=1
 root:eu L 0=true
def Child (L:List cL) (p c:Nat):Prop:=(∃ e∈dy L p,ny c e=true)/\eu L c=true
def kj (L:List cL):Nat->Nat->Nat->Prop
 | 0,a,c=>a=c
 | d+1,a,c=>∃ p,kj L d a p/\Child L p c
theorem l9 {L:List cL}{c:Nat}(h:eu L c=true):c<L.length:=by
 unfold eu at h;split at h
 ·rename_i x hx
  exact (qM hx)
 ·cases h
theorem Child.le {L:List cL}{p c:Nat}(h:Child L p c):1<=(dy L p).countP (ny c):=by
 obtain⟨⟨e,a,b⟩,_⟩:=h;exact List.countP_pos_iff.2 ⟨e,a,b⟩
theorem wb {L:List cL}(ht:Tree L){p p' c:Nat}(h:Child L p c)(h':Child L p' c):p=p':=by
 by_cases e:p=p'
 ·exact e
 ·have a:=h.le;have b:=h'.le;have d:=G8 (ny c) L p p' e;have f:=ht.one c h.2;omega
theorem Cz {L:List cL}(ht:Tree L){p:Nat}(h:Child L p 0):False:=by
 obtain⟨⟨e,b,a⟩,_⟩:=h;have:=(ht.inr p e b).2.2.2;simp[ny]at a;exact this a
theorem ma {L:List cL}{a b:Nat}{d:Nat}(h:kj L d a b):∀ (d' c:Nat),kj L d' b c->kj L (d+d') a c
 | 0,c,h'=>by
  have e:=h';subst e;exact h
 | d'+1,c,h'=>by
  obtain⟨p,h1,h2⟩:=h';exact⟨p,ma h d' p h1,h2⟩
theorem ou {L:List cL}{a:Nat}{d:Nat}:∀ (d' c:Nat),kj L (d+d') a c->∃ b,kj L d a b/\kj L d' b c
 | 0,c,h=>⟨c,h,rfl⟩
 | d'+1,c,h=>by
  obtain⟨p,h1,h2⟩:=h;obtain⟨b,h3,h4⟩:=ou d' p h1;exact⟨b,h3,p,h4,h2⟩
theorem uX {L:List cL}(ht:Tree L){a a':Nat}:∀ (d c:Nat),kj L d a c->kj L d a' c->a=a'
 | 0,c,h,h'=>by
  have e:a=c:=h;have e':a'=c:=h';omega
 | d+1,c,h,h'=>by
  obtain⟨p,h1,h2⟩:=h;obtain⟨p',h1',h2'⟩:=h';obtain rfl:=wb ht h2 h2';exact uX ht d p h1 h1'
theorem oI {L:List cL}{a b c d:Nat}(h:Child L a b)(h':kj L d b c):kj L (d+1) a c:=by
 have:=ma (show kj L 1 a b from⟨a,rfl,h⟩) d c h'
 rwa [Nat.add_comm]at this
theorem xj {L:List cL}(ht:Tree L){j k c:Nat}(h:kj L j 0 c)(h':kj L k 0 c):j=k:=by
 have a:∀ (j k c:Nat),j<k->kj L j 0 c->kj L k 0 c->False:=λj k c l h h'=>by
  rw[show k=(k-j)+j by omega]at h';obtain⟨b,f,g⟩:=ou j c h';obtain rfl:=uX ht j c h g;rw[show k-j=(k-j-1)+1 by omega]at f;obtain⟨p,_,i⟩:=f;exact Cz ht i
 rcases Nat.lt_trichotomy j k with d | d | d
 ·exact (a j k c d h h').elim
 ·exact d
 ·exact (a k j c d h' h).elim
theorem rN {L:List cL}(ht:Tree L){m k x:Nat}(h:kj L m 0 x)(h':kj L k x x):k=0:=by
 have:=xj ht h (ma h k x h');omega
theorem zJ {L:List cL}(ht:Tree L):∀ (d c:Nat),kj L d 0 c->∃ l:List Nat,l.length=d+1/\l.Nodup/\∀ y∈l,y<L.length/\∃ j,j<=d/\kj L j 0 y
 | 0,c,h => by
  have e:=h;subst e;exact⟨[0],rfl,qs,λy hy=>by
   rw[NG.1 hy];exact⟨l9 ht.root,0,qn,rfl⟩⟩
 | d+1,c,h => by
  obtain⟨p,h1,h2⟩:=h;obtain⟨l,hl,hn,hm⟩:=zJ ht d p h1;have hc:kj L (d+1) 0 c:=⟨p,h1,h2⟩;refine⟨c::l,by simp[hl],OZ.2 ⟨λhmem=>?_,hn⟩,λy hy=>?_⟩
  ·obtain⟨_,j,hj,ha⟩:=hm c hmem;have:=xj ht ha hc;omega
  ·rcases Ni.1 hy with rfl | hy
   ·exact⟨l9 h2.2,d+1,qn,hc⟩
   ·obtain⟨h3,j,hj,ha⟩:=hm y hy;exact⟨h3,j,qo,ha⟩
theorem B2 {L:List cL}(ht:Tree L){d c:Nat}(h:kj L d 0 c):d<L.length:=by
 obtain⟨l,g,a,b⟩:=zJ ht d c h;have:=OT a (l₂:=List.range L.length) (λy f=>O8.2 (b y f).1);rw[List.length_range]at this;omega
theorem yR {L:List cL}(ht:Tree L):∀ (f x:Nat),x<L.length->¬ deep L f x->∃ c,kj L f x c
 | 0,x,_,_=>⟨x,rfl⟩
 | f+1,x,hx,h => by
  by_cases hb:∃ e∈dy L x,eu L e.2.2.1.toNat=true/\¬ deep L f e.2.2.1.toNat
  ·obtain⟨e,he,hd,hn⟩:=hb;obtain⟨c,hc⟩:=yR ht f _ (l9 hd) hn;refine⟨c,oI ⟨⟨e,he,?_⟩,hd⟩ hc⟩;have:=(ht.inr x e he).1;simp[ny];omega
  ·refine absurd ?_ h;refine⟨hx,λe he=>⟨?_,λhd=>?_⟩⟩
   ·have:=ht.inr x e he;exact⟨this.1,this.2.1,this.2.2.1⟩
   ·by_cases hn:deep L f e.2.2.1.toNat
    ·exact hn
    ·exact absurd ⟨e,he,hd,hn⟩ hb
theorem Aj {L:List cL}(ht:Tree L)(hL:L.length<=24){m x:Nat}(h:kj L m 0 x)(hx:x<L.length):deep L 24 x:=by
 by_cases hd:deep L 24 x
 ·exact hd
 ·obtain⟨c,a⟩:=yR ht 24 x hx hd;have:=B2 ht (ma h 24 c a);omega
theorem Em {L:List cL}{x f:Nat}(hx:x<L.length)(h:dy L x=[]):deep L (f+1) x:=⟨hx,λe a=>by rw[h]at a;cases a⟩
theorem qm {L:List cL}{f:Nat}{path:ByteArray}{e:En}{z:Nat × ByteArray}(h:z∈step L f path e):eu L e.2.2.1.toNat=true/\z∈walk L f e.2.2.1.toNat (Ff path e.1):=by
 unfold step at h;split at h
 ·rename_i hd
  exact⟨hd,h⟩
 ·cases h
theorem nX {L:List cL}(ht:Tree L){no:Nat}{e:En}(he:e∈dy L no)(hd:eu L e.2.2.1.toNat=true):Child L no e.2.2.1.toNat:=by
 refine⟨⟨e,he,?_⟩,hd⟩;have:=(ht.inr no e he).1;simp[ny];omega
theorem ke {L:List cL}(ht:Tree L):∀ (f no:Nat) (path:ByteArray) (z:Nat × ByteArray),z∈walk L f no path->∃ d,kj L d no z.1
 | 0,_,_,z,h=>by cases h
 | f+1,no,path,z,h => by
  rw[je]at h;rcases Ni.1 h with rfl | h
  ·exact⟨0,rfl⟩
  ·obtain⟨e,he,hz⟩:=Ou.1 h;obtain⟨hd,hz⟩:=qm hz;obtain⟨d,ha⟩:=ke ht f _ _ z hz;exact⟨d+1,oI (nX ht he hd) ha⟩
theorem vy {L:List cL}(ht:Tree L):∀ (f no:Nat) (path:ByteArray) (d c:Nat),kj L d no c->d<f->∃ z∈walk L f no path,z.1=c
 | 0,_,_,d,_,_,h=>by omega
 | f+1,no,path,0,c,h,_=>by
  have e:=h;subst e;exact⟨(no,path),by rw[je];simp,rfl⟩
 | f+1,no,path,d+1,c,h,hlt=>by
  rw[show d+1=1+d by omega]at h;obtain⟨b,h1,h2⟩:=ou d c h;obtain⟨p,hp,hc⟩:=h1;have e:=hp;subst e;obtain⟨⟨e,he,hb⟩,hd⟩:=hc;have hbn:e.2.2.1.toNat=b:=by simp[ny]at hb;omega
  obtain⟨z,g,a⟩:=vy ht f b (Ff path e.1) d c h2 qo;refine⟨z,?_,a⟩;rw[je];refine N2 _ (Ou.2 ⟨e,he,?_⟩);unfold step;rw[hbn,MC hd];exact g
theorem EW {L:List cL}(ht:Tree L)(p):(dy L p).Pairwise (λe e'=>eu L e.2.2.1.toNat=true->e.2.2.1.toNat≠e'.2.2.1.toNat):=by
 have d:∀ l:List En,(∀ e∈l,0<=e.2.2.1)->(∀ c,eu L c=true->l.countP (ny c)<=1)->l.Pairwise (λe e'=>eu L e.2.2.1.toNat=true->e.2.2.1.toNat≠e'.2.2.1.toNat):=by
  intro l
  induction l with
  | nil=>intro _ _;exact List.Pairwise.nil
  | cons e r ih =>
   intro f h;refine N9.2 ⟨λe' a i b=>?_,ih (λx j=>f x (N2 _ j)) λc b=>?_⟩
   ·have g:=h _ i;have m:=f e qs;have n:=f e' (N2 _ a);rw[N5,MC (by simp[ny];omega)]at g;have:0<r.countP (ny e.2.2.1.toNat):=List.countP_pos_iff.2 ⟨e',a,by simp[ny];omega⟩;omega
   ·have:=h c b;rw[N5]at this;omega
 exact d _ (λe k=>(ht.inr p e k).1) λc b=>MS (uA (ny c) L p) (ht.one c b)
theorem uF {L:List cL}(ht:Tree L):∀ (f no:Nat) (path:ByteArray) (m:Nat),kj L m 0 no->(walk L f no path).Pairwise (λx y=>x.1≠y.1)
 | 0,_,_,_,_=>List.Pairwise.nil
 | f+1,no,path,m,hm => by
  rw[je];refine N9.2 ⟨λz hz hc=>?_,List.pairwise_flatMap.2 ⟨λe he=>?_,?_⟩⟩
  ·obtain⟨e,he,hz⟩:=Ou.1 hz;obtain⟨hd,hz⟩:=qm hz;obtain⟨d,ha⟩:=ke ht f _ _ z hz;have:=rN ht hm (show kj L (d+1) no no from by rw[<-hc]at ha;exact oI (nX ht he hd) ha);omega
  ·unfold step;split
   ·rename_i hd
    exact uF ht f _ _ (m+1) ⟨no,hm,nX ht he hd⟩
   ·exact List.Pairwise.nil
  ·have hp:=EW ht no;refine List.Pairwise.imp_of_mem (λ{e e'} he he' hne z hz z' hz' hc=>?_) hp;obtain⟨hd,hz⟩:=qm hz;obtain⟨hd',hz'⟩:=qm hz';obtain⟨d,ha⟩:=ke ht f _ _ z hz;obtain⟨d',ha'⟩:=ke ht f _ _ z' hz';rw[<-hc]at ha';have c1:=nX ht he hd;have c2:=nX ht he' hd';have h12:=hne hd;have key:∀ (a b d d':Nat),Child L no a->Child L no b->a≠b->kj L d a z.1->kj L d' b z.1->d<=d'->False:=λa b d d' ca cb hab h1 h2 hle=>by
    rw[show d'=(d'-d)+d by omega]at h2;obtain⟨x,h3,h4⟩:=ou d _ h2;obtain rfl:=uX ht d _ h1 h4
    cases hk:d'-d with
    | zero =>
     rw[hk]at h3;have e:=h3;exact hab e.symm
    | succ k =>
     rw[hk]at h3;obtain⟨p,h5,h6⟩:=h3;obtain rfl:=wb ht ca h6;have:=rN ht hm (oI cb h5);omega
   rcases Nat.le_total d d' with hle | hle
   ·exact key _ _ d d' c1 c2 h12 ha ha' hle
   ·exact key _ _ d' d c2 c1 (Ne.symm h12) ha' ha hle
theorem CS {L:List cL}(ht:Tree L){d c:Nat}(h:kj L d 0 c):eu L c=true:=by
 cases d with
 | zero =>
  have e:=h;subst e;exact ht.root
 | succ d =>
  obtain⟨p,_,a⟩:=h;exact a.2
def vM (L:List cL):List Nat:=(List.range L.length).filter (eu L)
theorem qy {L:List cL}{c:Nat}:c∈vM L ↔ eu L c=true:=by
 unfold vM;rw[NK,O8];exact⟨λh=>h.2,λh=>⟨l9 h,h⟩⟩
theorem uT {L:List cL}(ht:Tree L){f no m:Nat}{path:ByteArray}(h:kj L m 0 no):((walk L f no path).map (·.1)).Nodup:=by
 refine List.pairwise_map.2 (uF ht f no path m h)
theorem zr {L:List cL}(ht:Tree L)(f)(path):(walk L f 0 path).length<=(vM L).length:=by
 have h:=OT (uT ht (f:=f) (path:=path) (show kj L 0 0 0 from rfl)) (l₂:=vM L) (λc g=>by
  obtain⟨z,a,rfl⟩:=NI.1 g;obtain⟨d,b⟩:=ke ht f 0 path z a;exact qy.2 (CS ht b))
 rwa [M8]at h
theorem Ie {L:List cL} (ht:Tree L) (hL:L.length<=24) (path:ByteArray):(walk L 24 0 path).length=(vM L).length ↔ ∀ c,eu L c=true->∃ d,kj L d 0 c:=by
 have m:=uT ht (f:=24) (path:=path) (show kj L 0 0 0 from rfl);have a:∀ c∈(walk L 24 0 path).map (·.1),c∈vM L:=λc g=>by
  obtain⟨z,b,rfl⟩:=NI.1 g;obtain⟨d,i⟩:=ke ht 24 0 path z b;exact qy.2 (CS ht i)
 have j:(vM L).Nodup:=List.Pairwise.filter _ List.nodup_range;constructor
 ·intro p c g
  by_cases hm:c∈(walk L 24 0 path).map (·.1)
  ·obtain⟨z,b,rfl⟩:=NI.1 hm;exact ke ht 24 0 path z b
  ·have:=OT (OZ.2 ⟨hm,m⟩) (l₂:=vM L) (λy k=>by
    rcases Ni.1 k with rfl | k
    ·exact qy.2 g
    ·exact a y k)
   simp only[List.length_cons,List.length_map]at this;omega
 ·intro h;have o:=zr ht 24 path;have n:=OT j (l₂:=(walk L 24 0 path).map (·.1)) (λc g=>by
   obtain⟨d,i⟩:=h c (qy.1 g);have:=B2 ht i;obtain⟨z,b,l⟩:=vy ht 24 0 path d c i qo;exact NI.2 ⟨z,b,l⟩)
  rw[M8]at n;omega
end Sp
end
end Go.Proofs.YtiifhfmekbhlnaaGreat
