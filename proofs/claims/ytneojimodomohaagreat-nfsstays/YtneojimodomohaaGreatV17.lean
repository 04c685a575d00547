/- Chk, OPlain, OBase, OLists, as one. -/
import Derived.Test.YtneojimodomohaaGreatV16
set_option maxHeartbeats 8000000
set_option maxRecDepth 100000
namespace Go.Proofs.YtneojimodomohaaGreat
open Go.ChangeShapes Go.WideShapes Go.ChangeAt Go.RowKit Go.Deep It
theorem checkErr_or (L:List Ino):(It.checkErr L = 0/\It.right L = true)∨(It.checkErr L = 4/\It.right L = false):=by
 unfold It.checkErr
 cases h:It.right L
 ·exact .inr ⟨rfl,rfl⟩
 ·exact .inl ⟨rfl,rfl⟩
theorem scheck_any:ChkSaid (Sp.chk Sp.isSp):=by
 intro S v L w hv hok;have HV:Hid (TabAt S w v L):=hv;have HOK:Hid (Sp.okN L):=hok;obtain ⟨ao,cap,rfl,-,-⟩:=hv.open;clear hv hok;rcases checkErr_or (pl L) with ⟨hc,hr⟩ | ⟨hc,hr⟩
 ·have HC:Hid (It.checkErr (pl L) = 0):=hc;have HR:Hid (It.right (pl L) = true):=hr;clear hc hr
  cases hf:Sp.foldsB (pl L) with
  | true =>
   have HF:Hid (Sp.foldsB (pl L) = true):=hf
   cases hn:Sp.cntB (pl L) with
   | true =>
    have HN:Hid (Sp.cntB (pl L) = true):=hn;have HT:Hid (Sp.Tree (pl L)):=Sp.tree_of HR.out (Sp.foldsB_iff.1 hf) hn;have hl:=(Sp.right_len HR.out).2;have HL:Hid (L.length<=24):=by show L.length<=24;rwa [List.length_map] at hl
    have HD:Hid (Sp.deep (pl L) 24 0):=Sp.deep_all HT.out hl (show Sp.Anc (pl L) 0 0 0 from rfl) (Sp.dirAt_lt HT.out.root);have HLN:Hid ((Sp.walk (pl L) 24 0 ⟨#[]⟩).length<=24):=Nat.le_trans (Sp.walk_len HT.out 24 ⟨#[]⟩) (by rw [← Sp.count_dirs];exact Nat.le_trans List.countP_le_length hl);obtain ⟨q,hq⟩:=qE (Sp.reachB (pl L));have HQ:Hid (Sp.reachB (pl L) = q):=hq;have hres:Sp.chk Sp.isSp (pl L) = if q = true then 0 else 4:=by
     unfold Sp.chk Sp.isSp;rw [HR.out,hf,hn,hq];rfl
    rw [hres];clear hres hq hl hf hn
    cases q with
    | true =>
     rw [if_pos rfl];go_enter Tryz.func27,Tryz.ntmps27;go_wp2_with fail;refine (check_any _ L _ HV.out).mono ?_;rintro e w1 ⟨rfl,hb⟩;rw [HC.out];have HB1:Hid (Bw w w1):=hb;clear hb;go_wp2_with fail;refine (rightFolders_any _ L _ (HV.out.up HB1.out) HOK.out).mono ?_;rintro e w2 ⟨rfl,hb⟩;rw [HF.out];have HB2:=qJ HB1 hb;clear hb;go_wp2_with fail;refine (counted_any _ L _ (HV.out.up HB2.out) HR.out).mono ?_;rintro e w3 ⟨rfl,hb⟩;rw [HN.out];have HB3:=qJ HB2 hb;clear hb;go_wp2_with fail;refine (reached_any _ L _ (HV.out.up HB3.out) HD.out HL.out HLN.out).mono ?_;rintro e w4 ⟨rfl,hb⟩;rw [show (((Sp.walk (pl L) 24 0 ⟨#[]⟩).length:Int) - ((pl L).countP (fun x=>x.kind == 2):Nat) == 0) = true from HQ.out];have HB4:=qJ HB3 hb;clear hb;go_wp2;go_ret;exact ⟨rfl,HB4.out⟩
    | false =>
     rw [if_neg (by decide)];go_enter Tryz.func27,Tryz.ntmps27;go_wp2_with fail;refine (check_any _ L _ HV.out).mono ?_;rintro e w1 ⟨rfl,hb⟩;rw [HC.out];have HB1:Hid _:=hb;clear hb;go_wp2_with fail;refine (rightFolders_any _ L _ (HV.out.up HB1.out) HOK.out).mono ?_;rintro e w2 ⟨rfl,hb⟩;rw [HF.out];have HB2:=qJ HB1 hb;clear hb;go_wp2_with fail;refine (counted_any _ L _ (HV.out.up HB2.out) HR.out).mono ?_;rintro e w3 ⟨rfl,hb⟩;rw [HN.out];have HB3:=qJ HB2 hb;clear hb;go_wp2_with fail;refine (reached_any _ L _ (HV.out.up HB3.out) HD.out HL.out HLN.out).mono ?_;rintro e w4 ⟨rfl,hb⟩;rw [show (((Sp.walk (pl L) 24 0 ⟨#[]⟩).length:Int) - ((pl L).countP (fun x=>x.kind == 2):Nat) == 0) = false from HQ.out];have HB4:=qJ HB3 hb;clear hb;go_wp2;go_ret;exact ⟨rfl,HB4.out⟩
   | false =>
    have HN:Hid _:=hn;have hres:Sp.chk Sp.isSp (pl L) = 4:=by
     unfold Sp.chk Sp.isSp;rw [HR.out,hf,hn];rfl
    rw [hres];clear hres hf hn;go_enter Tryz.func27,Tryz.ntmps27;go_wp2_with fail;refine (check_any _ L _ HV.out).mono ?_;rintro e w1 ⟨rfl,hb⟩;rw [HC.out];have HB1:Hid _:=hb;clear hb;go_wp2_with fail;refine (rightFolders_any _ L _ (HV.out.up HB1.out) HOK.out).mono ?_;rintro e w2 ⟨rfl,hb⟩;rw [HF.out];have HB2:=qJ HB1 hb;clear hb;go_wp2_with fail;refine (counted_any _ L _ (HV.out.up HB2.out) HR.out).mono ?_;rintro e w3 ⟨rfl,hb⟩;rw [HN.out];have HB3:=qJ HB2 hb;clear hb;go_wp2;go_ret;exact ⟨rfl,HB3.out⟩
  | false =>
   have HF:Hid _:=hf;have hres:Sp.chk Sp.isSp (pl L) = 4:=by
    unfold Sp.chk Sp.isSp;rw [HR.out,hf];rfl
   rw [hres];clear hres hf;go_enter Tryz.func27,Tryz.ntmps27;go_wp2_with fail;refine (check_any _ L _ HV.out).mono ?_;rintro e w1 ⟨rfl,hb⟩;rw [HC.out];have HB1:Hid _:=hb;clear hb;go_wp2_with fail;refine (rightFolders_any _ L _ (HV.out.up HB1.out) HOK.out).mono ?_;rintro e w2 ⟨rfl,hb⟩;rw [HF.out];have HB2:=qJ HB1 hb;clear hb;go_wp2;go_ret;exact ⟨rfl,HB2.out⟩
 ·have HC:Hid _:=hc;have hres:Sp.chk Sp.isSp (pl L) = 4:=by
   unfold Sp.chk Sp.isSp;rw [hr];rfl
  rw [hres];clear hres hc hr;go_enter Tryz.func27,Tryz.ntmps27;go_wp2_with fail;refine (check_any _ L _ HV.out).mono ?_;rintro e w1 ⟨rfl,hb⟩;rw [HC.out];go_wp2;go_ret;exact ⟨rfl,hb⟩
theorem Sp.len_sum {β:Type} (f:β->Nat) (B:Nat):∀ (n:Nat) (l:List β),(∀ e∈l,f e < n)->(∀ c,c < n->l.countP (fun e=>f e == c)<=B)->l.length<=n * B
 | 0,l,h,_=>by
  cases l with
  | nil=>simp
  | cons e r=>have:=h e (by simp);omega
 | n + 1, l, h, hc => by
  have h1:l.length = l.countP (fun e=>f e == n) + (l.filter (fun e=>!(f e == n))).length:=by
   rw [← List.countP_eq_length_filter,List.length_eq_countP_add_countP (fun e=>f e == n)]
   congr 1
   refine List.countP_congr fun e _=>?_
   simp
  have h2:=Sp.len_sum f B n (l.filter (fun e=>!(f e == n))) (fun e he=>by
   obtain ⟨h3,h4⟩:=List.mem_filter.1 he;have:=h e h3;simp at h4;omega) (fun c hcn=>Nat.le_trans (List.Sublist.countP_le List.filter_sublist) (hc c (by omega)))
  have h3:=hc n (by omega);rw [h1,Nat.succ_mul];omega
theorem Sp.few {L:List Ino} (h:It.right L = true) (hc:Sp.cntB L = true) (c:Nat):(Sp.allEnts L).countP (fun e=>e.2.2.1.toNat == c)<=64:=by
 by_cases hcl:c < L.length
 ·have hx:L[c]? = some L[c]:=List.getElem?_eq_getElem hcl;have e1:(Sp.allEnts L).countP (fun e=>e.2.2.1.toNat == c) = Sp.cnt L ((c:Int),L[c].gen):=by
   unfold Sp.cnt;refine List.countP_congr fun e he=>?_
   obtain ⟨h1,_,_⟩:=Sp.ent_named h hc he;obtain ⟨i,x,hxi,hno,hg,_⟩:=names_iff.1 h1;simp only [beq_iff_eq];constructor
   ·intro h2;have:i = c:=by omega
    subst this;rw [hx] at hxi
    cases hxi
    exact Prod.ext hno hg.symm
   ·intro h2;rw [h2];simp
  have h1:=(Sp.cntB_iff h).1 hc ((c:Int),L[c].gen);have h2:Sp.Small (Sp.start L):=(Sp.startK_small h _).set _ (by decide) (by decide);have h3:=h2.val ((c:Int),L[c].gen);rw [e1];omega
 ·have:(Sp.allEnts L).countP (fun e=>e.2.2.1.toNat == c) = 0:=by
   refine List.countP_eq_zero.2 fun e he hec=>?_
   obtain ⟨h1,_,_⟩:=Sp.ent_named h hc he;obtain ⟨i,x,hxi,hno,_⟩:=names_iff.1 h1;have:=(qM hxi);simp at hec;omega
  omega
theorem isSp_means:Sp.ChkMeans (Sp.chk Sp.isSp):=by
 intro L hc;have hs:Sp.isSp L = true:=by
  unfold Sp.chk at hc;split at hc
  ·assumption
  ·cases hc
 obtain ⟨h1,h2,h3,_⟩:=Sp.isSp_iff.1 hs;have key:∀ x∈L,∀ e∈x.ents,findErr L e.2.2.1 e.2.2.2 = 0/\1<=(findI L e.2.2.1 e.2.2.2).links/\e.2.2.1≠0:=fun x hx e he=>by
  obtain ⟨h4,h5,h6⟩:=Sp.ent_named h1 h3 (List.mem_flatMap.2 ⟨x,hx,he⟩);have h7:findErr L e.2.2.1 e.2.2.2 = 0:=by unfold findErr;rw [if_pos h1,if_pos h4]
  refine ⟨h7,?_,h5⟩;unfold findI;rw [if_pos h7];exact h6
 refine ⟨h1,h2,fun x hx=>?_,key⟩;obtain ⟨p,hp⟩:=List.mem_iff_getElem?.1 hx;have h4:x.ents.length<=(Sp.allEnts L).length:=by
  have:=Sp.one_in (fun _=>true) L p;rw [List.countP_true] at this;unfold Sp.entsAt at this;rw [hp] at this;exact this
 have h5:=Sp.len_sum (fun e:Sp.En=>e.2.2.1.toNat) 64 24 (Sp.allEnts L) (fun e he=>by
  obtain ⟨h6,_⟩:=Sp.ent_named h1 h3 he;obtain ⟨i,y,hy,hno,_⟩:=names_iff.1 h6;have h7:=(qM hy);have h8:=(Sp.right_len h1).2;show e.2.2.1.toNat < 24;omega) (fun c _=>Sp.few h1 h3 c)
 omega
def Sp.insB (L:List Ino) (no to:Int):Bool:=(Sp.walk L 24 no.toNat ⟨#[]⟩).any fun z=>(z.1:Int) == to
theorem ins_said:InsSaid (Sp.chk Sp.isSp) Sp.insB:=by
 rintro S v L no to w hv hok hc ⟨k,x,rfl,hk,-⟩;have hs:Sp.isSp (pl L) = true:=by
  unfold Sp.chk at hc;split at hc
  ·assumption
  ·cases hc
 have hl:=(Sp.right_len (Sp.isSp_iff.1 hs).1).2;rw [List.length_map] at hl;have:=inside_any v L k to w hv (Sp.isSp_deep hs (qM hk)) (by omega);unfold Sp.insB;rw [show ((k:Int)).toNat = k by omega];exact this
end Go.Proofs.YtneojimodomohaaGreat
namespace Go.Proofs.YtneojimodomohaaGreat.Os
open Go.RowKit
abbrev Opn:=Int × Int × Int × Int
def EO:Enc Opn:=⟨4,fun x=>[.int .i64 x.1,.int .i64 x.2.1,.int .i64 x.2.2.1,.int .i64 x.2.2.2],fun _=>rfl,fun x u hu=>by
 simp at hu;rcases hu with rfl | rfl | rfl | rfl <;> rfl⟩
def Ho (no gen:Int):Prop:=(0<=no/\no<=23)/\(1<=gen/\gen<=1099511627776)
instance (no gen:Int):Decidable (Ho no gen):=by unfold Ho;infer_instance
namespace Op
def Cl (c:Int):Prop:=0<=c/\c<=1099511627776
instance (c:Int):Decidable (Cl c):=by unfold Cl;infer_instance
def good (t:Int) (x:Opn):Prop:=(t<=x.1/\x.1<=15)/\Cl x.2.1/\Ho x.2.2.1 x.2.2.2
instance (t:Int) (x:Opn):Decidable (good t x):=by unfold good;infer_instance
def right (t:Int):List Opn->Bool
 | []=>true
 | x :: r=>decide (good t x) && right (x.1 + 1) r
theorem drop_at {α:Type} {l:List α} {k:Nat} {x:α} (h:l[k]? = some x):l.drop k = x :: l.drop (k + 1):=by
 obtain ⟨hk,rfl⟩:=List.getElem?_eq_some_iff.1 h;exact List.drop_eq_getElem_cons hk
theorem take_at {α:Type} {l:List α} {k:Nat} {x:α} (h:l[k]? = some x):l.take (k + 1) = l.take k ++ [x]:=by
 rw [List.take_add_one,h];rfl
theorem right_yes {l:List Opn} {k:Nat} {x:Opn} {t:Int} (h:l[k]? = some x) (hg:good t x):right t (l.drop k) = right (x.1 + 1) (l.drop (k + 1)):=by
 rw [drop_at h];simp [right,hg]
theorem right_no {l:List Opn} {k:Nat} {x:Opn} {t:Int} (h:l[k]? = some x) (hg:¬ good t x):right t (l.drop k) = false:=by
 rw [drop_at h];simp [right,hg]
theorem right_end {l:List Opn} {k:Nat} {t:Int} (h:k = l.length):right t (l.drop k) = true:=by
 rw [h,List.drop_length];rfl
theorem right_all:∀ (l:List Opn) (t:Int),right t l = true->∀ (j:Nat) (x:Opn),l[j]? = some x->t + j<=x.1/\x.1 + (l.length:Int)<=16 + j/\Cl x.2.1/\Ho x.2.2.1 x.2.2.2
 | [],_,_,j,x,h=>by simp at h
 | y :: r, t, h, 0, x, hx => by
  simp [right] at h;simp at hx;subst hx;refine ⟨by have:=h.1.1.1;simpa using this,?_,h.1.2.1,h.1.2.2⟩;have ih:=right_all r _ h.2
  cases r with
  | nil =>
   have:=h.1.1.2;simp;omega
  | cons z r =>
   have:=ih 0 z rfl;simp only [List.length_cons] at this ⊢;omega
 | y :: r,t,h,j + 1,x,hx=>by
  simp [right] at h;have ih:=right_all r _ h.2 j x (by simpa using hx);have:=h.1.1.1;simp only [List.length_cons];refine ⟨by omega,by omega,ih.2.2⟩
theorem right_len {l:List Opn} (h:right 0 l = true):l.length<=16:=by
 cases l with
 | nil=>simp
 | cons x r =>
  have:=right_all _ _ h 0 x rfl;omega
def ask (l:List Opn) (c:Int):Int:=if right 0 l = true then (if Cl c then 0 else 1) else 4
theorem ask_or (l:List Opn) (c:Int):(ask l c = 0/\right 0 l = true/\Cl c)∨(ask l c = 1/\right 0 l = true/\¬ Cl c)∨(ask l c = 4/\right 0 l = false):=by
 unfold ask
 cases h:right 0 l
 ·exact .inr (.inr ⟨by simp,rfl⟩)
 ·by_cases hc:Cl c
  ·exact .inl ⟨by simp [hc],rfl,hc⟩
  ·exact .inr (.inl ⟨by simp [hc],rfl,hc⟩)
def least (i:Nat):List Opn->Nat
 | []=>i
 | x :: r=>if x.1 = i then least (i + 1) r else i
theorem least_yes {l:List Opn} {k:Nat} {x:Opn} (h:l[k]? = some x) (hx:x.1 = k):least k (l.drop k) = least (k + 1) (l.drop (k + 1)):=by
 rw [drop_at h];simp [least,hx]
theorem least_no {l:List Opn} {k:Nat} {x:Opn} (h:l[k]? = some x) (hx:¬ x.1 = k):least k (l.drop k) = k:=by
 rw [drop_at h];simp [least,hx]
theorem least_end {l:List Opn} {k:Nat} (h:k = l.length):least k (l.drop k) = k:=by
 rw [h,List.drop_length];rfl
theorem least_all:∀ (l:List Opn) (i:Nat),i<=least i l/\least i l<=i + l.length/\(∀ j,j < least i l - i->∃ x,l[j]? = some x/\x.1 = ((i + j:Nat):Int))/\∀ x,l[least i l - i]? = some x->¬ x.1 = (least i l:Int)
 | [],i=>⟨by simp [least],by simp [least],fun j hj=>by simp [least] at hj,fun x hx=>by simp at hx⟩
 | y :: r, i => by
  by_cases hy:y.1 = i
  ·have e:least i (y :: r) = least (i + 1) r:=by simp [least,hy]
   obtain ⟨h1,h2,h3,h4⟩:=least_all r (i + 1);rw [e];refine ⟨by omega,by simp;omega,fun j hj=>?_,fun x hx=>?_⟩
   ·cases j with
    | zero=>exact ⟨y,rfl,hy⟩
    | succ j =>
     obtain ⟨x,hx,hxe⟩:=h3 j (by omega);exact ⟨x,by simpa using hx,by rw [hxe];congr 1;omega⟩
   ·rw [show least (i + 1) r - i = (least (i + 1) r - (i + 1)) + 1 by omega,List.getElem?_cons_succ] at hx;exact h4 x hx
  ·have e:least i (y :: r) = i:=by simp [least,hy]
   rw [e];refine ⟨Nat.le_refl _,by omega,fun j hj=>by omega,fun x hx=>?_⟩;simp at hx;subst hx;exact hy
theorem least_in (l:List Opn):least 0 l<=l.length:=by have:=(least_all l 0).2.1;omega
def used (l:List Opn) (n:Int):Bool:=l.any fun x=>x.1 == n
def openErr (l:List Opn) (c no gen:Int):Int:=if ask l c = 0 then (if Ho no gen then (if l.length = 16 then 407 else 0) else 1) else ask l c
def opened (l:List Opn) (c no gen:Int):List Opn:=if openErr l c no gen = 0 then l.take (least 0 l) ++ [((least 0 l:Int),c,no,gen)] ++ l.drop (least 0 l) else []
def openFd (l:List Opn) (c no gen:Int):Int:=if openErr l c no gen = 0 then (least 0 l:Int) else 0
theorem open_or (l:List Opn) (c no gen:Int):(openErr l c no gen = 0/\ask l c = 0/\right 0 l = true/\Cl c/\Ho no gen/\l.length < 16)∨(openErr l c no gen = ask l c/\ask l c≠0)∨(openErr l c no gen = 1/\ask l c = 0/\¬ Ho no gen)∨(openErr l c no gen = 407/\ask l c = 0/\right 0 l = true/\Ho no gen/\l.length = 16):=by
 rcases ask_or l c with ⟨ha,hr,hc⟩ | ⟨ha,hr,hc⟩ | ⟨ha,hr⟩
 ·unfold openErr;rw [if_pos ha]
  by_cases ho:Ho no gen
  ·rw [if_pos ho];have:=right_len hr
   by_cases hl:l.length = 16
   ·rw [if_pos hl];exact .inr (.inr (.inr ⟨rfl,ha,hr,ho,hl⟩))
   ·rw [if_neg hl];exact .inl ⟨rfl,ha,hr,hc,ho,by omega⟩
  ·rw [if_neg ho];exact .inr (.inr (.inl ⟨rfl,ha,ho⟩))
 ·exact .inr (.inl ⟨by unfold openErr;rw [if_neg (by omega)],by omega⟩)
 ·exact .inr (.inl ⟨by unfold openErr;rw [if_neg (by omega)],by omega⟩)
def mine (c fd:Int) (x:Opn):Bool:=x.2.1 == c && x.1 == fd
def owned (l:List Opn) (c:Int):List Opn:=l.filter fun x=>x.2.1 == c
def without (l g:List Opn):List Opn:=l.filter fun x=>decide (x ∉ g)
def closeErr (l:List Opn) (c fd:Int):Int:=if ask l c = 0 then (match l.find? (mine c fd) with | some _=>0 | none=>411) else ask l c
def closed (l:List Opn) (c fd:Int):List Opn:=if ask l c = 0 then (match l.find? (mine c fd) with | some x=>without l [x] | none=>[]) else []
def closeOf (l:List Opn) (c fd:Int):Int × Int:=if ask l c = 0 then (match l.find? (mine c fd) with | some x=>x.2.2 | none=>(0,0)) else (0,0)
def left (l:List Opn) (c:Int):List Opn:=if ask l c = 0 then without l (owned l c) else []
def held (l:List Opn) (no gen:Int):Nat:=l.countP fun x=>x.2.2.1 == no && x.2.2.2 == gen
end Op
end Go.Proofs.YtneojimodomohaaGreat.Os
namespace Go.Proofs.YtneojimodomohaaGreat.Os
open Go.ChangeShapes Go.WideShapes Go.ChangeAt Go.RowKit Go.Deep
theorem infoO:(Tryz.prog.info? 77).map (fun i=>(i.zero,i.size,i.bytes)) = some (some (.agg #[.int .i64 0,.int .i64 0,.int .i64 0,.int .i64 0]),4,32):=by kernel_rfl
theorem info_parts {P:Program} {e:TypeId} {z:Value} {n b:Nat} (h:(P.info? e).map (fun i=>(i.zero,i.size,i.bytes)) = some (some z,n,b)):∃ i,P.info? e = some i/\i.zero = some z/\i.size = n/\i.bytes = b:=by
 cases hi:P.info? e with
 | none=>rw [hi] at h;cases h
 | some i =>
  rw [hi] at h;simp at h;exact ⟨i,rfl,h.1,h.2.1,h.2.2⟩
theorem within_any (lo x hi:Int) (w:World):Calls Tryz.prog 72 #[.int .i64 lo,.int .i64 x,.int .i64 hi] w fun e w'=>e = .returned (.bool (decide (lo<=x/\x<=hi)))/\w' = w:=by
 by_cases h1:lo<=x
 ·by_cases h2:x<=hi
  ·rw [decide_eq_true (show lo<=x/\x<=hi from ⟨h1,h2⟩)];go_enter Tryz.func72,Tryz.ntmps72;go_wp2;go_ret;exact ⟨rfl,rfl⟩
  ·rw [decide_eq_false (show ¬ (lo<=x/\x<=hi) from fun h=>h2 h.2)];go_enter Tryz.func72,Tryz.ntmps72;go_wp2;go_ret;exact ⟨rfl,rfl⟩
 ·rw [decide_eq_false (show ¬ (lo<=x/\x<=hi) from fun h=>h1 h.1)];go_enter Tryz.func72,Tryz.ntmps72;go_wp2;go_ret;exact ⟨rfl,rfl⟩
theorem within_yes (lo x hi:Int) (w:World) (h:lo<=x/\x<=hi):Calls Tryz.prog 72 #[.int .i64 lo,.int .i64 x,.int .i64 hi] w fun e w'=>e = .returned (.bool true)/\w' = w:=by
 have:=within_any lo x hi w
 rwa [decide_eq_true h] at this
theorem within_no (lo x hi:Int) (w:World) (h:¬ (lo<=x/\x<=hi)):Calls Tryz.prog 72 #[.int .i64 lo,.int .i64 x,.int .i64 hi] w fun e w'=>e = .returned (.bool false)/\w' = w:=by
 have:=within_any lo x hi w
 rwa [decide_eq_false h] at this
theorem rclient_any (c:Int) (w:World):Calls Tryz.prog 73 #[.int .i64 c] w fun e w'=>e = .returned (.bool (decide (Op.Cl c)))/\w' = w:=by
 obtain ⟨b,hb⟩:=qE (decide (Op.Cl c));have HD:Hid _:=(show decide (0<=c/\c<=1099511627776) = decide (Op.Cl c) from decide_eq_decide.2 Iff.rfl).trans hb;rw [hb];clear hb;go_enter Tryz.func73,Tryz.ntmps73;go_wp2_with fail;refine (within_any _ _ _ _).mono ?_;rintro e w' ⟨rfl,rfl⟩;rw [HD.out];go_wp2;go_ret;exact ⟨rfl,rfl⟩
theorem rclient_yes (c:Int) (w:World) (h:Op.Cl c):Calls Tryz.prog 73 #[.int .i64 c] w fun e w'=>e = .returned (.bool true)/\w' = w:=by
 have:=rclient_any c w
 rwa [decide_eq_true h] at this
theorem rclient_no (c:Int) (w:World) (h:¬ Op.Cl c):Calls Tryz.prog 73 #[.int .i64 c] w fun e w'=>e = .returned (.bool false)/\w' = w:=by
 have:=rclient_any c w
 rwa [decide_eq_false h] at this
abbrev BH (no gen:Int):Obj:=.cells #[.int .i64 no,.int .i64 gen] 28
abbrev VH (no gen:Int):Value:=.agg #[.int .i64 no,.int .i64 gen]
theorem rof_any (no gen:Int) (w:World):Calls Tryz.prog 74 #[VH no gen] w fun e w'=>e = .returned (.bool (decide (Ho no gen)))/\w' = w.alloc (BH no gen):=by
 by_cases h1:0<=no/\no<=23
 ·have H:Hid _:=h1;obtain ⟨b,hb⟩:=qE (decide (Ho no gen));have HD:Hid _:=(show decide (1<=gen/\gen<=1099511627776) = decide (Ho no gen) from decide_eq_decide.2 ⟨fun h=>⟨h1,h⟩,fun h=>h.2⟩).trans hb;rw [hb];clear h1 hb;go_enter Tryz.func74,Tryz.ntmps74;go_wp2_with fail;refine (within_yes _ _ _ _ H.out).mono ?_;rintro e w' ⟨rfl,rfl⟩;go_wp2_with fail;refine (within_any _ _ _ _).mono ?_;rintro e w' ⟨rfl,rfl⟩;rw [HD.out];go_wp2;go_ret;exact ⟨rfl,rfl⟩
 ·rw [decide_eq_false (show ¬ Ho no gen from fun h=>h1 h.1)];have H:Hid _:=h1;clear h1;go_enter Tryz.func74,Tryz.ntmps74;go_wp2_with fail;refine (within_no _ _ _ _ H.out).mono ?_;rintro e w' ⟨rfl,rfl⟩;go_wp2;go_ret;exact ⟨rfl,rfl⟩
theorem rof_yes (no gen:Int) (w:World) (h:Ho no gen):Calls Tryz.prog 74 #[VH no gen] w fun e w'=>e = .returned (.bool true)/\w' = w.alloc (BH no gen):=by
 have:=rof_any no gen w
 rwa [decide_eq_true h] at this
theorem rof_no (no gen:Int) (w:World) (h:¬ Ho no gen):Calls Tryz.prog 74 #[VH no gen] w fun e w'=>e = .returned (.bool false)/\w' = w.alloc (BH no gen):=by
 have:=rof_any no gen w
 rwa [decide_eq_false h] at this
abbrev BO (x:Opn):Obj:=.cells #[.int .i64 x.1,.int .i64 x.2.1,.int .i64 x.2.2.1,.int .i64 x.2.2.2] 77
abbrev VO (x:Opn):Value:=.agg #[.int .i64 x.1,.int .i64 x.2.1,.int .i64 x.2.2.1,.int .i64 x.2.2.2]
theorem eql_opn (w:World) (y x:Opn):(binOp .eql 77 (VO y) (VO x)).run Tryz.prog w = .ok (.bool (decide (y = x))) w:=by
 obtain ⟨y0,y1,y2,y3⟩:=y;obtain ⟨x0,x1,x2,x3⟩:=x;have e:decide ((y0,y1,y2,y3) = (x0,x1,x2,x3)) = ((y0 == x0) && ((y1 == x1) && ((y2 == x2) && (y3 == x3)))):=by
  rw [Bool.eq_iff_iff];simp
 rw [e]
 cases h0:(y0 == x0) <;> cases h1:(y1 == x1) <;> cases h2:(y2 == x2) <;> cases h3:(y3 == x3) <;> go_simp <;> simp [h0,h1,h2,h3]
theorem eql_hand (w:World) (a b c d:Int):(binOp .eql 28 (VH a b) (VH c d)).run Tryz.prog w = .ok (.bool (a == c && b == d)) w:=by
 cases h0:(a == c) <;> cases h1:(b == d) <;> go_simp <;> simp [h0,h1]
theorem cell_older {w1:World} {p:Nat} (hp:p < w1.heap.size) (o:Obj) (j:Nat):(w1.alloc o).cell? ⟨p,j,none⟩ = w1.cell? ⟨p,j,none⟩:=((Below.refl w1.heap.size w1).alloc (Nat.le_refl _) o).cell (p:=⟨p,j,none⟩) hp
theorem opn_cells {w wr:World} {b off k:Nat} {x:Opn} (h:Bw w wr) (hB:b < w.heap.size) (hc:∀ j u,(EO.cells x)[j]? = some u->w.cell? ⟨b,off + (k * EO.sz + j),none⟩ = some u) :
  wr.cell? ⟨b,off + k * 4,none⟩ = some (.int .i64 x.1)/\wr.cell? ⟨b,off + k * 4 + 1,none⟩ = some (.int .i64 x.2.1)/\wr.cell? ⟨b,off + k * 4 + 2,none⟩ = some (.int .i64 x.2.2.1)/\wr.cell? ⟨b,off + k * 4 + 3,none⟩ = some (.int .i64 x.2.2.2):=by
 have a:=fun j u hj=>(h.cell (p:=⟨b,off + (k * EO.sz + j),none⟩) hB).trans (hc j u hj)
 exact ⟨a 0 _ rfl,a 1 _ rfl,a 2 _ rfl,a 3 _ rfl⟩
theorem opn_of {w:World} {A:Nat} {x:Opn} (h:w.heap[A]? = some (BO x)) :
  (w.cell? ⟨A,0,none⟩ = some (.int .i64 x.1)/\w.cell? ⟨A,1,none⟩ = some (.int .i64 x.2.1)/\w.cell? ⟨A,2,none⟩ = some (.int .i64 x.2.2.1)/\w.cell? ⟨A,3,none⟩ = some (.int .i64 x.2.2.2))/\∀ j,w.frozen? ⟨A,j,none⟩ = false:=by
 refine ⟨⟨?_,?_,?_,?_⟩,fun j=>?_⟩ <;> simp [World.cell?,World.frozen?,h]
abbrev Over (w:World) (ao:Option Addr) (l:List Opn):Prop:=∀ i x,l[i]? = some x->∃ b off,ao = some ⟨b,off,none⟩/\True/\b < w.heap.size/\∀ k u,(EO.cells x)[k]? = some u->w.cell? ⟨b,off + (i * EO.sz + k),none⟩ = some u
theorem check_any (v:Value) (l:List Opn) (w:World) (hv:AtW EO w v l) :
  Calls Tryz.prog 28 #[v] w fun e w'=>e = .returned (.int .i64 (if Op.right 0 l = true then 0 else 4))/\Bw w w':=by
 obtain ⟨ao,cap,rfl,hm,hx⟩:=hv.open;clear hv;unfold maxLen at hm;obtain ⟨n,hn⟩:=qE l.length;rw [hn] at hm ⊢;have HN:Hid _:=hn;have HX:Hid _:=hx;obtain ⟨r,hr⟩:=qE (if Op.right 0 l = true then (0:Int) else 4);rw [hr];have HR:Hid _:=hr;clear hn hx hr;go_enter Tryz.func28,Tryz.ntmps28;go_wp2;go_loopw [3,8] (fun t i wr=>∃ (k:Nat) (t':Int),k<=n/\i = .int .i64 k/\t = .int .i64 t'/\0<=t'/\Hid (Op.right 0 l = Op.right t' (l.drop k))/\Hid (Bw w wr)) (fun _ i _=>n - (intOf i).toNat)
 case atStart=>exact ⟨0,0,Nat.zero_le _,rfl,rfl,Int.le_refl _,rfl,Below.refl _ _⟩
 case round =>
  obtain ⟨k,t,hk,rfl,rfl,ht0,HP,HB⟩:=hrel;have hsz:=HB.out.size
  by_cases hlt:k < n
  ·obtain ⟨x,hxk⟩:∃ x,l[k]? = some x:=⟨_,List.getElem?_eq_getElem (by rw [HN.out];exact hlt)⟩;have HXK:Hid _:=hxk;obtain ⟨b,off,rfl,-,hB,hc⟩:=HX.out k x hxk;obtain ⟨c0,c1,c2,c3⟩:=opn_cells HB.out hB hc;clear hc hxk;have hlt':(k:Int) < (n:Int):=by omega
   have HNO:Hid (¬ Op.good t x->r = 4):=fun hg=>by
    have:=HR.out;rw [HP.out,Op.right_no HXK.out hg] at this;exact this.symm
   have HYES:Hid (Op.good t x->Op.right 0 l = Op.right (x.1 + 1) (l.drop (k + 1))):=fun hg=>HP.out.trans (Op.right_yes HXK.out hg)
   by_cases g1:t<=x.1/\x.1<=15
   ·have G1:Hid _:=g1
    by_cases g2:Op.Cl x.2.1
    ·have G2:Hid _:=g2
     by_cases g3:Ho x.2.2.1 x.2.2.2
     ·have G3:Hid _:=g3;have hle:=g1.2;have HY:Hid _:=HYES.out ⟨g1,g2,g3⟩;have hge:0<=x.1:=by omega
      clear g1 g2 g3;go_wp2_with fail;refine (within_yes _ _ _ _ G1.out).mono ?_;rintro e w' ⟨rfl,rfl⟩;go_wp2_with fail;refine (rclient_yes _ _ G2.out).mono ?_;rintro e w' ⟨rfl,rfl⟩;go_wp2_with fail;refine (rof_yes _ _ _ G3.out).mono ?_;rintro e w' ⟨rfl,rfl⟩;go_wp2
      go_roundw
      case rel=>exact ⟨k + 1,x.1 + 1,by omega,by go_num,by go_num,by omega,HY,(HB.out.alloc hsz _).alloc (by simp;omega) _⟩
      case measure=>simp [intOf];omega
     ·have H:Hid _:=HNO.out fun h=>g3 h.2.2
      have G3:Hid _:=g3;clear g1 g2 g3;go_wp2_with fail;refine (within_yes _ _ _ _ G1.out).mono ?_;rintro e w' ⟨rfl,rfl⟩;go_wp2_with fail;refine (rclient_yes _ _ G2.out).mono ?_;rintro e w' ⟨rfl,rfl⟩;go_wp2_with fail;refine (rof_no _ _ _ G3.out).mono ?_;rintro e w' ⟨rfl,rfl⟩;go_wp2;go_ret;rw [H.out];exact ⟨rfl,(HB.out.alloc hsz _).alloc (by simp;omega) _⟩
    ·have H:Hid _:=HNO.out fun h=>g2 h.2.1
     have G2:Hid _:=g2;clear g1 g2;go_wp2_with fail;refine (within_yes _ _ _ _ G1.out).mono ?_;rintro e w' ⟨rfl,rfl⟩;go_wp2_with fail;refine (rclient_no _ _ G2.out).mono ?_;rintro e w' ⟨rfl,rfl⟩;go_wp2;go_ret;rw [H.out];exact ⟨rfl,HB.out.alloc hsz _⟩
   ·have H:Hid _:=HNO.out fun h=>g1 h.1
    have G1:Hid _:=g1;clear g1;go_wp2_with fail;refine (within_no _ _ _ _ G1.out).mono ?_;rintro e w' ⟨rfl,rfl⟩;go_wp2;go_ret;rw [H.out];exact ⟨rfl,HB.out.alloc hsz _⟩
  ·obtain rfl:k = n:=by omega
   have H:Hid (r = 0):=by
    have:=HR.out;rw [HP.out,Op.right_end HN.out.symm,if_pos rfl] at this;exact this.symm
   go_wp2;go_ret;rw [H.out];exact ⟨rfl,HB.out⟩
theorem refuse_any (v:Value) (l:List Opn) (c:Int) (w:World) (hv:AtW EO w v l) :
  Calls Tryz.prog 164 #[v,.int .i64 c] w fun e w'=>e = .returned (.int .i64 (Op.ask l c))/\Bw w w':=by
 have HV:Hid _:=hv;clear hv;rcases Op.ask_or l c with ⟨ha,hr,hc⟩ | ⟨ha,hr,hc⟩ | ⟨ha,hr⟩
 ·have HE:Hid ((if Op.right 0 l = true then (0:Int) else 4) = 0):=if_pos hr;have HC:Hid _:=hc;rw [ha];clear ha hr hc;go_enter Tryz.func164,Tryz.ntmps164;go_wp2_with fail;refine (check_any v l _ HV.out).mono ?_;rintro e w1 ⟨rfl,hb⟩;rw [HE.out];go_wp2_with fail;refine (rclient_yes _ _ HC.out).mono ?_;rintro e w2 ⟨rfl,rfl⟩;go_wp2;go_ret;exact ⟨rfl,hb⟩
 ·have HE:Hid ((if Op.right 0 l = true then (0:Int) else 4) = 0):=if_pos hr;have HC:Hid _:=hc;rw [ha];clear ha hr hc;go_enter Tryz.func164,Tryz.ntmps164;go_wp2_with fail;refine (check_any v l _ HV.out).mono ?_;rintro e w1 ⟨rfl,hb⟩;rw [HE.out];go_wp2_with fail;refine (rclient_no _ _ HC.out).mono ?_;rintro e w2 ⟨rfl,rfl⟩;go_wp2;go_ret;exact ⟨rfl,hb⟩
 ·have HE:Hid ((if Op.right 0 l = true then (0:Int) else 4) = 4):=if_neg (by rw [hr];decide);rw [ha];clear ha hr;go_enter Tryz.func164,Tryz.ntmps164;go_wp2_with fail;refine (check_any v l _ HV.out).mono ?_;rintro e w1 ⟨rfl,hb⟩;rw [HE.out];go_wp2;go_ret;exact ⟨rfl,hb⟩
theorem leastFree_any (v:Value) (l:List Opn) (w:World) (hv:AtW EO w v l) :
  Calls Tryz.prog 165 #[v] w fun e w'=>e = .returned (.int .i64 (Op.least 0 l:Nat))/\Bw w w':=by
 obtain ⟨ao,cap,rfl,hm,hx⟩:=hv.open;clear hv;unfold maxLen at hm;obtain ⟨n,hn⟩:=qE l.length;rw [hn] at hm ⊢;have HN:Hid _:=hn;have HX:Hid _:=hx;obtain ⟨r,hr⟩:=qE (Op.least 0 l);rw [hr];have HR:Hid _:=hr;clear hn hx hr;go_enter Tryz.func165,Tryz.ntmps165;go_wp2;go_loopw [7] (fun i wr=>∃ (k:Nat),k<=n/\i = .int .i64 k/\Hid (Op.least 0 l = Op.least k (l.drop k))/\Hid (Bw w wr)) (fun i _=>n - (intOf i).toNat)
 case atStart=>exact ⟨0,Nat.zero_le _,rfl,rfl,Below.refl _ _⟩
 case round =>
  obtain ⟨k,hk,rfl,HP,HB⟩:=hrel;have hsz:=HB.out.size
  by_cases hlt:k < n
  ·obtain ⟨x,hxk⟩:∃ x,l[k]? = some x:=⟨_,List.getElem?_eq_getElem (by rw [HN.out];exact hlt)⟩;have HXK:Hid _:=hxk;obtain ⟨b,off,rfl,-,hB,hc⟩:=HX.out k x hxk;obtain ⟨c0,c1,c2,c3⟩:=opn_cells HB.out hB hc;clear hc hxk;have hlt':(k:Int) < (n:Int):=by omega
   by_cases g:x.1 = (k:Int)
   ·have HY:Hid _:=HP.out.trans (Op.least_yes HXK.out g);have g1:(x.1 == (k:Int)) = true:=by simp [g]
    clear g;go_wp2
    go_roundw
    case rel=>exact ⟨k + 1,by omega,by go_num,HY,HB.out.alloc hsz _⟩
    case measure=>simp [intOf];omega
   ·have H:Hid (r = k):=by
     have:=HR.out;rw [HP.out,Op.least_no HXK.out g] at this;exact this.symm
    have g1:(x.1 == (k:Int)) = false:=beq_eq_false_iff_ne.2 g;clear g;go_wp2;go_ret;rw [H.out];exact ⟨rfl,HB.out.alloc hsz _⟩
  ·obtain rfl:k = n:=by omega
   have H:Hid (r = k):=by
    have:=HR.out;rw [HP.out,Op.least_end HN.out.symm] at this;exact this.symm
   go_wp2;go_ret;rw [H.out];exact ⟨rfl,HB.out⟩
theorem at_one {w:World} {B:Nat} {x:Opn} (h:w.heap[B]? = some (BO x)):AtW EO w (.slice (some ⟨B,0,none⟩) 1 1) [x]:=by
 refine .inr ⟨B,0,1,rfl,trivial,(qL h),by simp,by simp,by decide,fun j u hj=>?_⟩;simp only [World.cell?,h,Nat.zero_add];simpa [Enc.flat,EO] using hj
theorem at_two (wr:World) (x:Opn):AtW EO ((wr.alloc (BO x)).alloc (BO x)) (.slice (some ⟨wr.heap.size + 1,0,none⟩) 1 1) [x]:=by
 have h2:=heap_alloc_new (wr.alloc (BO x)) (BO x);rw [show (wr.alloc (BO x)).heap.size = wr.heap.size + 1 by simp] at h2;exact at_one h2
namespace Op
theorem filter_in {l:List Opn} {p:Opn->Bool} {k:Nat} {x:Opn} (h:l[k]? = some x) (hp:p x = true):(l.take (k + 1)).filter p = (l.take k).filter p ++ [x]:=by
 rw [take_at h,List.filter_append];simp [hp]
theorem filter_out {l:List Opn} {p:Opn->Bool} {k:Nat} {x:Opn} (h:l[k]? = some x) (hp:p x = false):(l.take (k + 1)).filter p = (l.take k).filter p:=by
 rw [take_at h,List.filter_append];simp [hp]
theorem filter_len (l:List Opn) (p:Opn->Bool) (k:Nat):((l.take k).filter p).length<=k:=Nat.le_trans (List.length_filter_le _ _) (by simp;omega)
end Op
theorem owned_any (v:Value) (l:List Opn) (c:Int) (w:World) (hv:AtW EO w v l) (hl:l.length<=4398046511104) :
  Calls Tryz.prog 167 #[v,.int .i64 c] w fun e w'=>∃ p n q,e = .returned (.slice p n q)/\At EO (fun b=>w.heap.size<=b) w' (.slice p n q) (Op.owned l c)/\Bw w w':=by
 obtain ⟨ao,cap,rfl,-,hx⟩:=hv.open;clear hv;obtain ⟨n,hn⟩:=qE l.length;rw [hn] at hl ⊢;have HN:Hid (l.length = n):=hn;have HX:Hid (Over w ao l):=hx;obtain ⟨j0,hj,hy0,hy1,hy2⟩:=info_parts infoO;obtain ⟨p,hp⟩:∃ p:Opn->Bool,p = fun x=>x.2.1 == c:=⟨_,rfl⟩
 have HP:Hid (p = fun x=>x.2.1 == c):=hp;clear hn hx hp;go_enter Tryz.func167,Tryz.ntmps167;go_wp2;go_loopw [5,10] (fun u i wr=>∃ (k:Nat) (pp:Option Addr) (jj q:Nat),k<=n/\i = .int .i64 k/\u = .slice pp jj q/\Hid (Row EO wr w.heap.size 77 (.slice pp jj q) ((l.take k).filter p))/\Hid (Bw w wr)) (fun _ i _=>n - (intOf i).toNat)
 case atStart=>exact ⟨0,none,0,0,Nat.zero_le _,rfl,rfl,by rw [List.take_zero];exact Row.nil _ _ _ _,Below.refl _ _⟩
 case round =>
  obtain ⟨k,pp,jj,q,hk,rfl,rfl,HR,HB⟩:=hrel;have hsz:=HB.out.size
  by_cases hlt:k < n
  ·obtain ⟨x,hxk⟩:∃ x,l[k]? = some x:=⟨_,List.getElem?_eq_getElem (by rw [HN.out];exact hlt)⟩;have HXK:Hid (l[k]? = some x):=hxk;obtain ⟨b,off,rfl,-,hB,hc⟩:=HX.out k x hxk;obtain ⟨c0,c1,c2,c3⟩:=opn_cells HB.out hB hc;clear hc hxk;have hlt':(k:Int) < (n:Int):=by omega
   have HLEN:Hid (((l.take k).filter p).length<=k):=Op.filter_len l p k
   by_cases g:x.2.1 = c
   ·have HG:Hid ((l.take (k + 1)).filter p = (l.take k).filter p ++ [x]):=Op.filter_in HXK.out (by rw [HP.out];simp [g]);have g1:(x.2.1 == c) = true:=by simp [g]
    have HR3:Hid (Row EO ((wr.alloc (BO x)).alloc (BO x)) w.heap.size 77 (.slice pp jj q) ((l.take k).filter p)):=(HR.out.up (qG _ _)).up (qG _ _);have HB3:Hid (Bw w ((wr.alloc (BO x)).alloc (BO x))):=(HB.out.alloc hsz _).alloc (by simp;omega) _;have HO:Hid (AtW EO ((wr.alloc (BO x)).alloc (BO x)) (.slice (some ⟨wr.heap.size + 1,0,none⟩) 1 1) [x]):=at_two wr x;clear g
    go_wp2_with (at_builtin;refine wpList_row _ rfl _ _ 23 rfl EO (fun _=>True) w.heap.size 77 j0 _ 32 Tryz.underlying23 hj hy0 hy1 hy2 rfl _ ((l.take k).filter p) rfl HR3.out _ [x] rfl HO.out (by have:=HLEN.out;unfold maxLen;simp only [List.length_cons,List.length_nil];omega) (by have:=HLEN.out;simp only [List.length_cons,List.length_nil];omega) (by simp;omega) ?_;intro v7 w7 hrow7 hg7 hloc7)
    have HEND:Hid (Row EO w7 w.heap.size 77 v7 ((l.take (k + 1)).filter p)/\Bw w w7):=⟨by rw [HG.out];exact hrow7,HB3.out.grown hg7 (by simp;omega) (fun k hk=>(HR3.out.lt k hk).1)⟩;clear hrow7 hg7 hloc7;obtain ⟨p7,c7,hv7⟩:=HEND.out.1.slice;obtain ⟨n7,hn7⟩:=qE (((l.take (k + 1)).filter p).length);rw [hn7] at hv7;subst hv7;clear hn7;go_wp2
    go_roundw
    case rel=>exact ⟨k + 1,p7,n7,c7,by omega,by go_num,rfl,HEND.out.1,HEND.out.2⟩
    case measure=>simp [intOf];omega
   ·have HG:Hid ((l.take (k + 1)).filter p = (l.take k).filter p):=Op.filter_out HXK.out (by rw [HP.out];simp [g]);have g1:(x.2.1 == c) = false:=beq_eq_false_iff_ne.2 g;have HR2:Hid (Row EO (wr.alloc (BO x)) w.heap.size 77 (.slice pp jj q) ((l.take k).filter p)):=HR.out.up (qG _ _);clear g;go_wp2
    go_roundw
    case rel=>exact ⟨k + 1,pp,jj,q,by omega,by go_num,rfl,by rw [HG.out];exact HR2.out,HB.out.alloc hsz _⟩
    case measure=>simp [intOf];omega
  ·obtain rfl:k = n:=by omega
   have HEND:Hid (At EO (fun b=>w.heap.size<=b) wr (.slice pp jj q) (Op.owned l c)):=by
    have:=HR.out.at;rw [← HN.out,List.take_length,HP.out] at this;exact this
   go_wp2;go_ret;exact ⟨_,_,_,rfl,HEND.out,HB.out⟩
theorem index_any (v:Value) (l:List Opn) (y:Opn) (w:World) (hv:AtW EO w v l) :
  Calls Tryz.prog 208 #[v,VO y] w fun e w'=>∃ i:Int,e = .returned (.int .i64 i)/\(0<=i ↔ y∈l)/\Bw w w':=by
 obtain ⟨ao,cap,rfl,hm,hx⟩:=hv.open;clear hv;unfold maxLen at hm;obtain ⟨n,hn⟩:=qE l.length;rw [hn] at hm ⊢;have HN:Hid _:=hn;have HX:Hid _:=hx;obtain ⟨W,hW⟩:=qF (w.alloc (BO y));have HB0:Hid _:=qB hW;have HA0:Hid (W.heap[w.heap.size]? = some (BO y)):=by show W.heap[w.heap.size]? = some (BO y);rw [hW];exact heap_alloc_new w (BO y)
 clear hn hx;go_enter Tryz.func208,Tryz.ntmps208;go_wp2;rw [← hW];clear hW;go_loopw [5,8] (fun t i wr=>∃ (k:Nat),k<=n/\i = .int .i64 k/\Hid (y ∉ l.take k)/\Hid (Bw W wr)) (fun _ i _=>n - (intOf i).toNat)
 case atStart=>exact ⟨0,Nat.zero_le _,rfl,by show y ∉ l.take 0;simp,Below.refl _ _⟩
 case round =>
  obtain ⟨k,hk,rfl,HM,HB⟩:=hrel;have HB1:=qJ HB0 HB.out;obtain ⟨⟨z0,z1,z2,z3⟩,-⟩:=opn_of ((HB.out.block _ (qL HA0.out)).trans HA0.out)
  by_cases hlt:k < n
  ·obtain ⟨x,hxk⟩:∃ x,l[k]? = some x:=⟨_,List.getElem?_eq_getElem (by rw [HN.out];exact hlt)⟩;have HXK:Hid _:=hxk;obtain ⟨b,off,rfl,-,hB,hc⟩:=HX.out k x hxk;obtain ⟨c0,c1,c2,c3⟩:=opn_cells HB1.out hB hc;clear hc hxk;have hlt':(k:Int) < (n:Int):=by omega
   by_cases g:y = x
   ·subst g;have H:Hid _:=List.mem_of_getElem? HXK.out;go_wp2
    go_quiet (fail)
    go_wp2;go_ret;exact ⟨k,rfl,⟨fun _=>H.out,fun _=>by omega⟩,below_drewN HB1.out _⟩
   ·have HM2:Hid (y ∉ l.take (k + 1)):=by
     show y ∉ l.take (k + 1);rw [Op.take_at HXK.out];simp [g,HM.out]
    have heq:∀ w',(binOp .eql 77 (VO y) (VO x)).run Tryz.prog w' = .ok (.bool false) w':=fun w'=>by rw [eql_opn,decide_eq_false g]
    clear g;go_wp2
    go_quiet (fail)
    go_wp2
    go_roundw
    case rel=>exact ⟨k + 1,by omega,by go_num,HM2,below_drewN HB.out _⟩
    case measure=>simp [intOf];omega
  ·obtain rfl:k = n:=by omega
   have H:Hid (y ∉ l):=by
    have:=HM.out
    rwa [← HN.out,List.take_length] at this
   go_wp2;go_ret;exact ⟨-1,rfl,⟨fun h=>by omega,fun h=>absurd h H.out⟩,HB1.out⟩
end Go.Proofs.YtneojimodomohaaGreat.Os
