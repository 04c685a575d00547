/- FPlain, FPlainF, FName, FCheck, Sp1, Sp2, as one. -/
import Derived.Laws.RangeAny
import Derived.Maps.OwnSet
import Derived.Test.YtneojimodomohaaGreatV4
set_option maxHeartbeats 8000000
set_option maxRecDepth 100000
namespace Go.Proofs.YtneojimodomohaaGreat
section
namespace Nm
/-- No byte that may not be, up to p. -/
def clean (s:ByteArray) (p:Nat):Prop:=∀ i (h:i < s.size),i < p->(s[i]'h).toNat≠47/\(s[i]'h).toNat≠0
def ok (s:ByteArray):Prop:=1<=s.size/\s.size<=32/\s≠⟨#[46]⟩/\s≠⟨#[46,46]⟩/\clean s s.size
open Classical in
noncomputable def err (s:ByteArray):Int:=if ok s then 0 else 409
theorem err_ok {s:ByteArray} (h:ok s):err s = 0:=by unfold err;rw [if_pos h]
theorem err_no {s:ByteArray} (h:¬ ok s):err s = 409:=by unfold err;rw [if_neg h]
theorem err_or (s:ByteArray):(err s = 0/\ok s)∨(err s = 409/\¬ ok s):=by
  by_cases h:ok s
  · exact .inl ⟨err_ok h,h⟩
  · exact .inr ⟨err_no h,h⟩
theorem clean_zero (s:ByteArray):clean s 0:=fun i _ h=>by omega
theorem clean_bad {s:ByteArray} {p:Nat} (h:p < s.size) (hb:(s[p]'h).toNat = 47∨(s[p]'h).toNat = 0):¬ ok s:=fun hk=>by
  have:=hk.2.2.2.2 p h h;rcases hb with hb | hb
  · exact this.1 hb
  · exact this.2 hb
theorem get_tail (s:ByteArray) (i:Nat) (h:i < s.size):s.get! i = s[i]'h:=by
  simp [ByteArray.get!,getElem!_pos,h];rfl
/-- What a decode jumps over lies within the text and is 128 or more. -/
theorem decode_skip (s:ByteArray) (pos:Nat) (h:pos < s.size):1<=(Utf8.decode s pos).2/\pos + (Utf8.decode s pos).2<=s.size/\∀ k,1<=k->k < (Utf8.decode s pos).2->128<=(s.get! (pos + k)).toNat:=by
  by_cases ha:(s[pos]'h).toNat < 128
  · rw [decode_ascii s pos h ha]
    exact ⟨Nat.le_refl _,h,fun k h1 h2=>by simp at h2;omega⟩
  · simp only [Utf8.decode, get_at s pos h, ha, if_false]
    generalize h1:(s.get! (pos + 1)).toNat = b1;generalize h2:(s.get! (pos + 2)).toNat = b2;generalize h3:(s.get! (pos + 3)).toNat = b3;have one:∀ k,1<=k->k < 1->128<=(s.get! (pos + k)).toNat:=fun k _ _=>by omega
    repeat' split
    all_goals simp only [Bool.and_eq_true,decide_eq_true_eq,beq_iff_eq] at *
    all_goals refine ⟨by decide,by omega,?_⟩
    all_goals first
      | exact one
      | (intro k hk1 hk2
         have hk:k = 1∨k = 2∨k = 3:=by omega
         rcases hk with rfl | rfl | rfl
         · rw [h1];omega
         · rw [h2];omega
         · rw [h3];omega)
theorem decode_bad (s:ByteArray) (pos:Nat) (h:pos < s.size):((Utf8.decode s pos).1 = 47 ↔ (s[pos]'h).toNat = 47)/\((Utf8.decode s pos).1 = 0 ↔ (s[pos]'h).toNat = 0):=by
  by_cases ha:(s[pos]'h).toNat < 128
  · rw [decode_ascii s pos h ha]
    exact ⟨Iff.rfl,Iff.rfl⟩
  · have := (decode_high s pos h (by omega)).1
    constructor <;> constructor <;> intro h' <;> omega
theorem clean_jump {s:ByteArray} {p:Nat} (h:p < s.size) (hc:clean s p) (h1:(Utf8.decode s p).1≠47) (h2:(Utf8.decode s p).1≠0):clean s (p + (Utf8.decode s p).2):=fun i hi hl=>by
  obtain ⟨hb1,hb2⟩:=decode_bad s p h
  by_cases e:i < p
  · exact hc i hi e
  · by_cases e2 : i = p
    · subst e2
      exact ⟨fun h'=>h1 (hb1.2 h'),fun h'=>h2 (hb2.2 h')⟩
    · have := (decode_skip s p h).2.2 (i - p) (by omega) (by omega)
      rw [show p + (i - p) = i by omega,get_tail s i hi] at this;constructor <;> omega
end Nm
end
section
open Go.RowKit Go.Maps
/-- An entry: name, cookie, the handle's number and generation. -/
abbrev Ent:=ByteArray × Int × Int × Int
/-- A handle that an entry may have. -/
def Ho (no gen:Int):Prop:=(0<=no/\no<=23)/\(1<=gen/\gen<=1099511627776)
instance (no gen:Int):Decidable (Ho no gen):=by unfold Ho;infer_instance
namespace Fo
def lastC (l:List Ent):Nat->Int
  | 0=>0
  | i + 1=>(l.getD i (.empty,0,0,0)).2.1
def good (next:Int) (l:List Ent) (i:Nat):Prop:=∀ x,l[i]? = some x->Nm.ok x.1/\(lastC l i + 1<=x.2.1/\x.2.1<=next)/\Ho x.2.2.1 x.2.2.2
def Pre (next:Int) (l:List Ent) (k:Nat):Prop:=∀ i,i < k->good next l i
/-- No two names the same. -/
def apart (l:List Ent):Prop:=(l.map (·.1)).Nodup
def Right (l:List Ent) (next:Int):Prop:=(0<=next/\next<=1099511627776)/\Pre next l l.length/\apart l
open Classical in
noncomputable def err (l:List Ent) (next:Int):Int:=if Right l next then 0 else 4
theorem err_ok {l:List Ent} {next:Int} (h:Right l next):err l next = 0:=by unfold err;rw [if_pos h]
theorem err_no {l:List Ent} {next:Int} (h:¬ Right l next):err l next = 4:=by unfold err;rw [if_neg h]
theorem err_or (l:List Ent) (next:Int):(err l next = 0/\Right l next)∨(err l next = 4/\¬ Right l next):=by
  by_cases h:Right l next
  · exact .inl ⟨err_ok h,h⟩
  · exact .inr ⟨err_no h,h⟩
theorem pre_zero (next:Int) (l:List Ent):Pre next l 0:=fun i h=>by omega
theorem pre_succ {next:Int} {l:List Ent} {k:Nat} (h:Pre next l k) (hg:good next l k):Pre next l (k + 1):=fun i hi=>by
  by_cases e:i = k
  · subst e
    exact hg
  · exact h i (by omega)
theorem lastC_succ {l:List Ent} {k:Nat} {x:Ent} (h:l[k]? = some x):lastC l (k + 1) = x.2.1:=by
  simp [lastC,List.getD,h]
theorem lastC_bd {next:Int} {l:List Ent} {k:Nat} (h:Pre next l k) (hk:k<=l.length) (hn:0<=next):0<=lastC l k/\lastC l k<=next:=by
  induction k with
  | zero=>exact ⟨Int.le_refl _,hn⟩
  | succ k ih =>
    have hx:l[k]? = some l[k]:=List.getElem?_eq_getElem (by omega);have hg:=h k (by omega) _ hx;have:=ih (fun i hi=>h i (by omega)) (by omega);rw [lastC_succ hx];omega
theorem not_good {next:Int} {l:List Ent} {k:Nat} {x:Ent} (hx:l[k]? = some x) (h:¬ (Nm.ok x.1/\(lastC l k + 1<=x.2.1/\x.2.1<=next)/\Ho x.2.2.1 x.2.2.2)):err l next = 4 :=
  err_no fun hr=>h (hr.2.1 k (List.getElem?_eq_some_iff.1 hx).1 x hx)
/-- The keys of the first k names. -/
def keys (l:List Ent) (k:Nat):List Lit:=(l.take k).map fun x=>.string x.1.data.toList
def Sn {H:Type} (l:List Ent) (k:Nat):DataW H:=setOf (.agg []) (keys l k)
theorem Sn_zero {H:Type} (l:List Ent):Sn (H:=H) l 0 = .map []:=by simp [Sn,keys,setOf]
theorem Sn_succ {H:Type} {l:List Ent} {k:Nat} {x:Ent} (h:l[k]? = some x):Sn (H:=H) l (k + 1) = (Sn l k).put (.string x.1.data.toList) (.agg []):=by
  unfold Sn keys;rw [List.take_add_one,List.map_append,h];exact setOf_snoc _ _ _
theorem fold_size : ∀ (xs acc : List Lit), (∀ x ∈ xs, WideAt.IsKeyLit x) → (xs.foldl addKey acc).length ≤ acc.length + xs.length ∧ ((xs.foldl addKey acc).length = acc.length + xs.length ↔ xs.Nodup ∧ ∀ x ∈ xs, x ∉ acc)
  | [],acc,_=>by simp
  | x :: r, acc, h => by
    have hk:=h x (by simp);have hr:=fun y hy=>h y (List.mem_cons_of_mem x hy)
    rw [List.foldl_cons]
    by_cases hm:x∈acc
    · have e : addKey acc x = acc := by
        unfold addKey;have ha:acc.any (fun y=>y.sameKey x) = true:=List.any_eq_true.2 ⟨x,hm,WideAt.sameKey_self hk⟩;exact if_pos ha
      have ih:=fold_size r acc hr;rw [e];refine ⟨by simp;omega,fun h'=>?_,fun h'=>absurd hm (h'.2 x (by simp))⟩;simp at h';omega
    · have e : addKey acc x = acc ++ [x] := by
        unfold addKey;rw [if_neg];intro h';obtain ⟨y,hy,hs⟩:=List.any_eq_true.1 h';exact hm (WideAt.sameKey_eq hs ▸ hy)
      have ih:=fold_size r (acc ++ [x]) hr;rw [e];simp only [List.length_append,List.length_cons,List.length_nil] at ih ⊢;refine ⟨by omega,?_⟩;rw [show acc.length + (r.length + 1) = acc.length + (0 + 1) + r.length by omega,ih.2,List.nodup_cons];constructor
      · rintro ⟨h1, h2⟩
        refine ⟨⟨fun hx=>(h2 x hx) (by simp),h1⟩,fun y hy=>?_⟩;rcases List.mem_cons.1 hy with rfl | hy
        · exact hm
        · exact fun h3=>h2 y hy (by simp [h3])
      · rintro ⟨⟨h0, h1⟩, h2⟩
        refine ⟨h1,fun y hy h3=>?_⟩;rcases List.mem_append.1 h3 with h3 | h3
        · exact h2 y (by simp [hy]) h3
        · simp at h3
          subst h3;exact h0 hy
theorem nodup_inj {α β:Type} {f:α->β} (hf:∀ a b,f a = f b->a = b):∀ l:List α,(l.map f).Nodup ↔ l.Nodup
  | []=>by simp
  | x :: r => by
    rw [List.map_cons,List.nodup_cons,List.nodup_cons,nodup_inj hf r];constructor
    · rintro ⟨h1, h2⟩
      exact ⟨fun h=>h1 (List.mem_map_of_mem h),h2⟩
    · rintro ⟨h1, h2⟩
      refine ⟨fun h=>?_,h2⟩;obtain ⟨y,hy,e⟩:=List.mem_map.1 h;exact h1 (hf _ _ e ▸ hy)
theorem size_all (l:List Ent):Maps.size (Sn (H:=Unit) l l.length)<=l.length/\(Maps.size (Sn (H:=Unit) l l.length) = l.length ↔ apart l):=by
  have hk:∀ x∈keys l l.length,WideAt.IsKeyLit x:=fun x hx=>by
    obtain ⟨y,_,rfl⟩:=List.mem_map.1 hx
    trivial
  have hl:(keys l l.length).length = l.length:=by simp [keys]
  have:=fold_size (keys l l.length) [] hk;unfold Sn;rw [size_setOf _ _ hk];simp only [List.length_nil,Nat.zero_add,hl,List.not_mem_nil,not_false_eq_true,implies_true,and_true] at this;refine ⟨this.1,this.2.trans ?_⟩;unfold apart keys;rw [List.take_length,← nodup_inj (f:=fun s:ByteArray=>Lit.string s.data.toList) (fun a b h=>?_) (l.map (·.1)),List.map_map]
  · rfl
  · cases a
    cases b
    simp at h;simp [h]
theorem err_all {l:List Ent} {next:Int} (hn:0<=next/\next<=1099511627776) (hp:Pre next l l.length):err l next = if Maps.size (Sn (H:=Unit) l l.length) < l.length then 4 else 0:=by
  have:=size_all l
  by_cases h:apart l
  · rw [err_ok ⟨hn, hp, h⟩, if_neg]
    have:=this.2.2 h;omega
  · rw [err_no fun hr => h hr.2.2, if_pos]
    have h2:=this.1;have h3:¬ Maps.size (Sn (H:=Unit) l l.length) = l.length:=fun e=>h (this.2.1 e)
    omega
end Fo
end
section
open Go.ChangeShapes Go.WideShapes Go.ChangeAt Go.RowKit Go.Deep
theorem fwithin_any (lo x hi:Int) (w:World):Calls Tryz.prog 160 #[.int .i64 lo,.int .i64 x,.int .i64 hi] w fun e w'=>e = .returned (.bool (decide (lo<=x/\x<=hi)))/\w' = w:=by
 by_cases h1:lo<=x
 ·by_cases h2:x<=hi
  ·rw [decide_eq_true (show lo<=x/\x<=hi from ⟨h1,h2⟩)];go_enter Tryz.func160,Tryz.ntmps160;go_wp2;go_ret;exact ⟨rfl,rfl⟩
  ·rw [decide_eq_false (show ¬ (lo<=x/\x<=hi) from fun h=>h2 h.2)];go_enter Tryz.func160,Tryz.ntmps160;go_wp2;go_ret;exact ⟨rfl,rfl⟩
 ·rw [decide_eq_false (show ¬ (lo<=x/\x<=hi) from fun h=>h1 h.1)];go_enter Tryz.func160,Tryz.ntmps160;go_wp2;go_ret;exact ⟨rfl,rfl⟩
theorem fwithin_yes (lo x hi:Int) (w:World) (h:lo<=x/\x<=hi):Calls Tryz.prog 160 #[.int .i64 lo,.int .i64 x,.int .i64 hi] w fun e w'=>e = .returned (.bool true)/\w' = w:=by
 have:=fwithin_any lo x hi w
 rwa [decide_eq_true h] at this
theorem fwithin_no (lo x hi:Int) (w:World) (h:¬ (lo<=x/\x<=hi)):Calls Tryz.prog 160 #[.int .i64 lo,.int .i64 x,.int .i64 hi] w fun e w'=>e = .returned (.bool false)/\w' = w:=by
 have:=fwithin_any lo x hi w
 rwa [decide_eq_false h] at this
abbrev BHf (no gen:Int):Obj:=.cells #[.int .i64 no,.int .i64 gen] 28
abbrev VHf (no gen:Int):Value:=.agg #[.int .i64 no,.int .i64 gen]
theorem rightTo_any (no gen:Int) (w:World):Calls Tryz.prog 180 #[VHf no gen] w fun e w'=>e = .returned (.bool (decide (Ho no gen)))/\w' = w.alloc (BHf no gen):=by
 by_cases h1:0<=no/\no<=23
 ·by_cases h2:1<=gen/\gen<=1099511627776
  ·rw [decide_eq_true (show Ho no gen from ⟨h1,h2⟩)];have H:Hid ((0<=no/\no<=23)/\(1<=gen/\gen<=1099511627776)):=⟨h1,h2⟩;clear h1 h2;go_enter Tryz.func180,Tryz.ntmps180;go_wp2_with fail;refine (fwithin_yes _ _ _ _ H.out.1).mono ?_;rintro e w' ⟨rfl,rfl⟩;go_wp2_with fail;refine (fwithin_yes _ _ _ _ H.out.2).mono ?_;rintro e w' ⟨rfl,rfl⟩;go_wp2;go_ret;exact ⟨rfl,rfl⟩
  ·rw [decide_eq_false (show ¬ Ho no gen from fun h=>h2 h.2)];have H:Hid ((0<=no/\no<=23)/\¬ (1<=gen/\gen<=1099511627776)):=⟨h1,h2⟩;clear h1 h2;go_enter Tryz.func180,Tryz.ntmps180;go_wp2_with fail;refine (fwithin_yes _ _ _ _ H.out.1).mono ?_;rintro e w' ⟨rfl,rfl⟩;go_wp2_with fail;refine (fwithin_no _ _ _ _ H.out.2).mono ?_;rintro e w' ⟨rfl,rfl⟩;go_wp2;go_ret;exact ⟨rfl,rfl⟩
 ·rw [decide_eq_false (show ¬ Ho no gen from fun h=>h1 h.1)];have H:Hid _:=h1;clear h1;go_enter Tryz.func180,Tryz.ntmps180;go_wp2_with fail;refine (fwithin_no _ _ _ _ H.out).mono ?_;rintro e w' ⟨rfl,rfl⟩;go_wp2;go_ret;exact ⟨rfl,rfl⟩
theorem toList_ne {s:ByteArray} {a:Array UInt8} (h:s≠⟨a⟩):¬ s.toList = a.toList:=fun e=>h (by
 rw [ByteArray.toList_eq] at e
 cases s
 simp at e;rw [e])
theorem below_iter {w:World} (s:ByteArray) (p:Nat):Bw w (w.iter s p):=qG _ _
theorem name_any (s : ByteArray) (w : World) (hm : s.size ≤ maxLen) : Calls Tryz.prog 179 #[.string s] w fun e w' => e = .returned (.int .i64 (Nm.err s)) ∧ Bw w w' := by
 unfold maxLen at hm
 by_cases h1:1<=(s.size:Int)/\(s.size:Int)<=32
 ·have H1 : Hid _ := h1
  by_cases h2:s = ⟨#[46]⟩
  ·have H:Hid _:=Nm.err_no fun h=>h.2.2.1 h2
   rw [H.out];subst h2;go_enter Tryz.func179,Tryz.ntmps179;go_wp2_with fail;refine (fwithin_yes _ _ _ _ H1.out).mono ?_;rintro e w' ⟨rfl,rfl⟩;go_wp2;go_ret;exact ⟨rfl,Below.refl _ _⟩
  ·by_cases h3:s = ⟨#[46,46]⟩
   ·have H:Hid _:=Nm.err_no fun h=>h.2.2.2.1 h3
    rw [H.out];subst h3;go_enter Tryz.func179,Tryz.ntmps179;go_wp2_with fail;refine (fwithin_yes _ _ _ _ H1.out).mono ?_;rintro e w' ⟨rfl,rfl⟩;go_wp2;go_ret;exact ⟨rfl,Below.refl _ _⟩
   ·have H2 : Hid (s ≠ ⟨#[46]⟩ ∧ s ≠ ⟨#[46, 46]⟩) := ⟨h2, h3⟩;have e2:(s.toList == [46]) = false:=beq_eq_false_iff_ne.2 (toList_ne h2);have e3:(s.toList == [46,46]) = false:=beq_eq_false_iff_ne.2 (toList_ne h3);clear h1 h2 h3;go_enter Tryz.func179,Tryz.ntmps179;go_wp2_with fail;refine (fwithin_yes _ _ _ _ H1.out).mono ?_;rintro e w' ⟨rfl,hw⟩;obtain rfl:w = w':=hw.symm;go_wp2;go_loopw [4] (fun _ wr=>∃ pos:Nat,pos<=s.size/\wr = w.iter s pos/\Nm.clean s pos) (fun _ wr=>s.size - wr.iterPos w.heap.size)
    case atStart=>exact ⟨0,Nat.zero_le _,rfl,Nm.clean_zero s⟩
    case round =>
     obtain ⟨pos,hps,rfl,hc⟩:=hrel;have HC:Hid _:=hc;clear hc
     by_cases hp:pos < s.size
     ·have hnext:∀ ty,(Instr.next (.pointer (some ⟨w.heap.size,0,none⟩)) true ty).run Tryz.prog (w.iter s pos) = _:=fun ty=>run_next_any w s pos ty hp
      obtain ⟨hd1,hd2,-⟩:=Nm.decode_skip s pos hp;obtain ⟨q1,q2⟩:=Nm.decode_bad s pos hp;have HJ:Hid ((Utf8.decode s pos).1≠47->(Utf8.decode s pos).1≠0->Nm.clean s (pos + (Utf8.decode s pos).2)):=fun a b=>Nm.clean_jump hp HC.out a b
      have HB:Hid ((Utf8.decode s pos).1 = 47∨(Utf8.decode s pos).1 = 0->Nm.err s = 409):=fun a=>Nm.err_no (Nm.clean_bad hp (a.imp q1.1 q2.1))
      clear q1 q2;generalize Utf8.decode s pos = d at *;obtain ⟨r,k⟩:=d;simp only at *
      by_cases r1:r = 47
      ·subst r1;have H:Hid _:=HB.out (.inl rfl);go_wp2;go_ret;rw [H.out];exact ⟨rfl,below_iter s _⟩
      ·by_cases r0:r = 0
       ·subst r0;have H:Hid _:=HB.out (.inr rfl);go_wp2;go_ret;rw [H.out];exact ⟨rfl,below_iter s _⟩
       ·have t1:((r:Int) == 47) = false:=beq_eq_false_iff_ne.2 (by omega);have t0:((r:Int) == 0) = false:=beq_eq_false_iff_ne.2 (by omega);have HK:Hid _:=HJ.out r1 r0;go_wp2
        go_roundw
        case rel=>exact ⟨pos + k,hd2,rfl,HK.out⟩
        case measure =>
         simp only [World.iterPos_iter];omega
     ·have hnext:∀ ty,(Instr.next (.pointer (some ⟨w.heap.size,0,none⟩)) true ty).run Tryz.prog (w.iter s pos) = _:=fun ty=>run_next_end w s pos ty hp
      have H:Hid (Nm.err s = 0):=Nm.err_ok ⟨by have:=H1.out.1;omega,by have:=H1.out.2;omega,H2.out.1,H2.out.2,by
       have:=HC.out
       rwa [show pos = s.size by omega] at this⟩
      go_wp2;go_ret;rw [H.out];exact ⟨rfl,below_iter s _⟩
 ·have H:Hid (Nm.err s = 409):=Nm.err_no fun h=>h1 ⟨by have:=h.1;omega,by have:=h.2.1;omega⟩
  have H1:Hid _:=h1;rw [H.out];clear h1;go_enter Tryz.func179,Tryz.ntmps179;go_wp2_with fail;refine (fwithin_no _ _ _ _ H1.out).mono ?_;rintro e w' ⟨rfl,rfl⟩;go_wp2;go_ret;exact ⟨rfl,Below.refl _ _⟩
end
section
open Go.ChangeShapes Go.WideShapes Go.ChangeAt Go.RowKit Go.Deep Go.Maps Go.WideMaps
theorem law9:Keyed Tryz.prog 9:=string_keyed Tryz.underlying9
theorem run_makeMap_some (t:TypeId) (k e:TypeId) (ht:Tryz.prog.underlying t = some (.map k e)) (w:World) (n:Int):(Instr.makeMap t (some (.int .i64 n))).run Tryz.prog w = .ok (.map (some w.heap.size)) (w.alloc (.map #[] 0)):=by
 simp [Instr.makeMap,run_underlying ht,asInt,asIntOf]
abbrev VD (v:Value) (next:Int):Value:=.agg #[v,.int .i64 next]
abbrev BD (v:Value) (next:Int):Obj:=.cells #[v,.int .i64 next] 142
abbrev BE (x:Ent):Obj:=.cells #[.string x.1,.int .i64 x.2.1,.int .i64 x.2.2.1,.int .i64 x.2.2.2] 110
theorem made_at (w:World) {b:Nat} (h:w.heap.size = b):Hid ((w.alloc (.map #[] 0)).ownsMap Tryz.prog 9 (unitElem (H:=Unit)) b 0 (.map [])):=h ▸ World.ownsMap_made w _ _ _
theorem dir_cells {w wr:World} {v:Value} {next:Int} (h:Below (w.heap.size + 1) (w.alloc (BD v next)) wr):wr.cell? ⟨w.heap.size,0,none⟩ = some v/\wr.cell? ⟨w.heap.size,1,none⟩ = some (.int .i64 next):=by
 rw [h.cell (p:=⟨w.heap.size,0,none⟩) (by simp),h.cell (p:=⟨w.heap.size,1,none⟩) (by simp)];have hh:=heap_alloc_new w (BD v next);constructor <;> simp only [World.cell?,hh] <;> rfl
theorem over {w wr w1:World} {v:Value} {next:Int} (_:Below (w.heap.size + 1) (w.alloc (BD v next)) wr) (h:Below (w.heap.size + 1) (w.alloc (BD v next)) w1):Bw w w1 :=
 ⟨h.os,h.tape,h.output,by have:=h.size;simp at this;omega,fun k hk=>(h.block k (by omega)).trans (((Below.refl w.heap.size w).alloc (Nat.le_refl _) (BD v next)).block k hk)⟩
theorem cell_older {w1:World} {p:Nat} (hp:p < w1.heap.size) (o:Obj) (j:Nat):(w1.alloc o).cell? ⟨p,j,none⟩ = w1.cell? ⟨p,j,none⟩:=((Below.refl w1.heap.size w1).alloc (Nat.le_refl _) o).cell (p:=⟨p,j,none⟩) hp
theorem ent_cells {w wr:World} {v:Value} {next:Int} {b off k:Nat} {x:Ent} (h:Below (w.heap.size + 1) (w.alloc (BD v next)) wr) (hB:b < w.heap.size) (hc:∀ j u,(EE.cells x)[j]? = some u->w.cell? ⟨b,off + (k * EE.sz + j),none⟩ = some u) :
  wr.cell? ⟨b,off + k * 4,none⟩ = some (.string x.1)/\wr.cell? ⟨b,off + k * 4 + 1,none⟩ = some (.int .i64 x.2.1)/\wr.cell? ⟨b,off + k * 4 + 2,none⟩ = some (.int .i64 x.2.2.1)/\wr.cell? ⟨b,off + k * 4 + 3,none⟩ = some (.int .i64 x.2.2.2):=by
 have e:∀ o,wr.cell? ⟨b,o,none⟩ = w.cell? ⟨b,o,none⟩:=fun o=>(h.cell (p:=⟨b,o,none⟩) (by show b < _;omega)).trans (((Below.refl w.heap.size w).alloc (Nat.le_refl _) _).cell (p:=⟨b,o,none⟩) hB)
 have a:=fun j u hj=>(e _).trans (hc j u hj)
 exact ⟨a 0 _ rfl,a 1 _ rfl,a 2 _ rfl,a 3 _ rfl⟩
theorem behind {w wr w1:World} {v:Value} {next:Int} (h:Below (w.heap.size + 1) (w.alloc (BD v next)) wr) (hws:w.heap.size + 1<=wr.heap.size) (x:Ent) (hb:Below (wr.alloc (BE x)).heap.size (wr.alloc (BE x)) w1) :
  w1.cell? ⟨wr.heap.size,0,none⟩ = some (.string x.1)/\w1.cell? ⟨wr.heap.size,1,none⟩ = some (.int .i64 x.2.1)/\w1.cell? ⟨wr.heap.size,2,none⟩ = some (.int .i64 x.2.2.1)/\w1.cell? ⟨wr.heap.size,3,none⟩ = some (.int .i64 x.2.2.2) /\
   w1.cell? ⟨w.heap.size,0,none⟩ = some v/\w1.cell? ⟨w.heap.size,1,none⟩ = some (.int .i64 next)/\Hid (wr.grownBy w1 none)/\wr.heap.size + 1<=w1.heap.size:=by
 have hg:wr.grownBy w1 none:=grown_trans (World.grownBy_alloc wr (BE x) none) (grown_of_below hb none);have hsz:wr.heap.size + 1<=w1.heap.size:=by have:=hb.size;simpa using this
 have hB:Below (w.heap.size + 1) (w.alloc (BD v next)) w1:=h.grown hg hws (fun k hk=>by cases hk);have e:∀ o,w1.cell? ⟨wr.heap.size,o,none⟩ = (wr.alloc (BE x)).cell? ⟨wr.heap.size,o,none⟩:=fun o=>hb.cell (p:=⟨wr.heap.size,o,none⟩) (by simp)
 obtain ⟨d0,d1⟩:=dir_cells hB;have hh:=heap_alloc_new wr (BE x);refine ⟨?_,?_,?_,?_,d0,d1,hg,hsz⟩ <;> rw [e] <;> simp only [World.cell?,hh] <;> rfl
theorem fcheck_any (v : Value) (l : List Ent) (next : Int) (w : World) (hv : AtW EE w v l) (hs : ∀ x ∈ l, x.1.size ≤ maxLen) :
  Calls Tryz.prog 128 #[VD v next] w fun e w'=>e = .returned (.int .i64 (Fo.err l next))/\Bw w w':=by
 obtain ⟨ao,cap,rfl,hm,hx⟩:=hv.open;clear hv;unfold maxLen at hm;obtain ⟨n,hn⟩:=qE l.length;rw [hn] at hm ⊢;have HN:Hid (l.length = n):=hn;have HX:Hid (∀ i x,l[i]? = some x->∃ b off,ao = some ⟨b,off,none⟩/\True/\b < w.heap.size/\∀ k u,(EE.cells x)[k]? = some u->w.cell? ⟨b,off + (i * EE.sz + k),none⟩ = some u):=hx;have HS:Hid (∀ x∈l,x.1.size<=maxLen):=hs;clear hn hx hs
 by_cases h1:0<=next/\next<=1099511627776
 ·have H1 : Hid (0 ≤ next ∧ next ≤ 1099511627776) := h1;have hmm:=run_makeMap_some 218 9 220 (by kernel_rfl);go_enter Tryz.func128,Tryz.ntmps128;go_wp2_with fail;refine (fwithin_yes _ _ _ _ H1.out).mono ?_;rintro e w' ⟨rfl,rfl⟩;go_wp2;go_loopw [3,18] (fun t i wr=>∃ k:Nat,k<=n/\i = .int .i64 k/\t = .int .i64 (Fo.lastC l k)/\Hid (Fo.Pre next l k)/\Hid (wr.ownsMap Tryz.prog 9 unitElem (w.heap.size + 1) k (Fo.Sn (H:=Unit) l k))/\Hid (Below (w.heap.size + 1) (w.alloc (BD (.slice ao n cap) next)) wr)) (fun _ i _=>n - (intOf i).toNat)
  case atStart=>exact ⟨0,Nat.zero_le _,rfl,rfl,Fo.pre_zero _ _,by rw [Fo.Sn_zero];exact made_at (w.alloc (BD (.slice ao n cap) next)) (by simp),(Below.refl _ _).alloc (by simp) _⟩
  case round =>
   obtain ⟨k,hk,rfl,rfl,HP,HOW,HBL⟩:=hrel;obtain ⟨hd0,hd1⟩:=dir_cells HBL.out;have hws:w.heap.size + 1<=wr.heap.size:=by have:=HBL.out.size;simpa using this
   obtain ⟨hb0,hb1⟩:=Fo.lastC_bd HP.out (by rw [HN.out];exact hk) H1.out.1;have hb2:next<=1099511627776:=H1.out.2;obtain ⟨la,hla⟩:=qE (Fo.lastC l k);rw [hla] at hb0 hb1 ⊢;have HLA:Hid (Fo.lastC l k = la):=hla;clear hla h1
   by_cases hlt:k < n
   ·obtain ⟨x,hxk⟩:∃ x,l[k]? = some x:=⟨_,List.getElem?_eq_getElem (by rw [HN.out];exact hlt)⟩;have HXK:Hid (l[k]? = some x):=hxk;obtain ⟨b,off,rfl,-,hB,hc⟩:=HX.out k x hxk;obtain ⟨c0,c1,c2,c3⟩:=ent_cells HBL.out hB hc;have HSZ:Hid (x.1.size<=maxLen):=HS.out x (List.mem_of_getElem? hxk);clear hc hxk;obtain ⟨xs,xc,xo,xg⟩:=x;simp only at c0 c1 c2 c3 HSZ;have hlt':(k:Int) < (n:Int):=by omega
    by_cases g1:Nm.ok xs
    ·have E1:Hid (Nm.err xs = 0):=Nm.err_ok g1
     by_cases g2:la + 1<=xc/\xc<=next
     ·have G2:Hid (la + 1<=xc/\xc<=next):=g2
      by_cases g3:Ho xo xg
      ·have G3:Hid (Ho xo xg):=g3;have HG:Hid (Fo.Pre next l (k + 1)):=Fo.pre_succ HP.out fun y hy=>by
        rw [HXK.out] at hy
        cases hy
        exact ⟨g1,by rw [HLA.out];exact g2,g3⟩
       have HD:Hid (decide (Ho xo xg) = true):=decide_eq_true g3;clear g1 g2 g3;go_wp2_with fail;refine (name_any xs _ HSZ.out).mono ?_;rintro e w1 ⟨rfl,hb⟩;rw [E1.out];obtain ⟨e0,e1,e2,e3,f0,f1,HB1,hs1⟩:=behind HBL.out hws (xs,xc,xo,xg) hb;simp only at e0 e1 e2 e3;clear hb;go_wp2_with fail;refine (fwithin_yes _ _ _ _ G2.out).mono ?_;rintro e w2 ⟨rfl,rfl⟩;go_wp2_with fail;refine (rightTo_any xo xg _).mono ?_;rintro e w2 ⟨rfl,rfl⟩;rw [HD.out];have HOW2:=HOW.out.kept (grown_trans HB1.out (World.grownBy_alloc w2 (BHf xo xg) none)) (by simp);have HB3:Hid (Below (w.heap.size + 1) (w.alloc (BD (.slice (some ⟨b,off,none⟩) n cap) next)) (w2.alloc (BHf xo xg))):=(HBL.out.grown HB1.out hws (fun j hj=>by cases hj)).alloc (by omega) _;rw [← cell_older (by omega) (BHf xo xg)] at e0 e1 f0;have hs3:w.heap.size + 1<=(w2.alloc (BHf xo xg)).heap.size:=by simp;omega
       clear e2 e3 f1 HB1 hs1 hd0 hd1 c0 c1 c2 c3;generalize w2.alloc (BHf xo xg) = w3 at *;have hkey:=keyOf_string_mk Tryz.underlying9 HSZ.out
       go_wp2_with (first
        | (at_mapUpdate;refine wpList_mapUpdate_own _ rfl _ _ _ 218 rfl 9 220 law9 (by kernel_rfl) (unitElem (H:=Unit)) (w.heap.size + 1) k _ rfl HOW2 (by unfold maxLen;omega) _ _ _ rfl rfl hkey _ [] unitElem_mk ?_;intro w5 hown1 hgrow1)
        | go_in)
       go_roundw
       case rel=>exact ⟨k + 1,by omega,by go_num,by rw [Fo.lastC_succ HXK.out],HG,by rw [Fo.Sn_succ HXK.out];exact hown1,HB3.out.grown hgrow1 hs3 (fun j hj=>by cases hj;exact Nat.le_refl _)⟩
       case measure=>simp [intOf];omega
      ·have HD:Hid (decide (Ho xo xg) = false):=decide_eq_false g3;have H:Hid (Fo.err l next = 4):=Fo.not_good HXK.out fun h=>g3 h.2.2
       clear g1 g2 g3;go_wp2_with fail;refine (name_any xs _ HSZ.out).mono ?_;rintro e w1 ⟨rfl,hb⟩;rw [E1.out];obtain ⟨e0,e1,e2,e3,f0,f1,HB1,hs1⟩:=behind HBL.out hws (xs,xc,xo,xg) hb;simp only at e0 e1 e2 e3;clear hb;go_wp2_with fail;refine (fwithin_yes _ _ _ _ G2.out).mono ?_;rintro e w2 ⟨rfl,rfl⟩;go_wp2_with fail;refine (rightTo_any xo xg _).mono ?_;rintro e w2 ⟨rfl,rfl⟩;rw [HD.out];go_wp2;go_ret;rw [H.out];exact ⟨rfl,over HBL.out ((HBL.out.grown HB1.out hws (fun j hj=>by cases hj)).alloc (by omega) _)⟩
     ·have G2:Hid (¬ (la + 1<=xc/\xc<=next)):=g2;have H:Hid (Fo.err l next = 4):=Fo.not_good HXK.out fun h=>g2 (by have:=h.2.1;rw [HLA.out] at this;exact this)
      clear g1 g2;go_wp2_with fail;refine (name_any xs _ HSZ.out).mono ?_;rintro e w1 ⟨rfl,hb⟩;rw [E1.out];obtain ⟨e0,e1,e2,e3,f0,f1,HB1,hs1⟩:=behind HBL.out hws (xs,xc,xo,xg) hb;simp only at e0 e1 e2 e3;clear hb;go_wp2_with fail;refine (fwithin_no _ _ _ _ G2.out).mono ?_;rintro e w2 ⟨rfl,rfl⟩;go_wp2;go_ret;rw [H.out];exact ⟨rfl,over HBL.out (HBL.out.grown HB1.out hws (fun j hj=>by cases hj))⟩
    ·have E1:Hid (Nm.err xs = 409):=Nm.err_no g1;have H:Hid (Fo.err l next = 4):=Fo.not_good HXK.out fun h=>g1 h.1
     clear g1;go_wp2_with fail;refine (name_any xs _ HSZ.out).mono ?_;rintro e w1 ⟨rfl,hb⟩;rw [E1.out];obtain ⟨e0,e1,e2,e3,f0,f1,HB1,hs1⟩:=behind HBL.out hws (xs,xc,xo,xg) hb;clear hb;go_wp2;go_ret;rw [H.out];exact ⟨rfl,over HBL.out (HBL.out.grown HB1.out hws (fun j hj=>by cases hj))⟩
   ·obtain rfl:k = n:=by omega
    have HE:Hid (Fo.err l next = if Maps.size (Fo.Sn (H:=Unit) l k) < k then 4 else 0):=by
     have:=Fo.err_all H1.out (l:=l) (by rw [HN.out];exact HP.out)
     rwa [HN.out] at this
    have HOW2:=HOW.out;obtain ⟨D,hD⟩:∃ D,Fo.Sn (H:=Unit) l k = D:=⟨_,rfl⟩;rw [hD] at HE HOW2;have hle:=HOW2.size_le
    by_cases hz:Maps.size D < k
    ·have hz':(Maps.size D:Int) < (k:Int):=by omega
     have H:Hid (Fo.err l next = 4):=by
      have:=HE.out
      rwa [if_pos hz] at this
     go_wp2_with (first
      | (at_len;refine wpList_len_own _ rfl _ 218 rfl 9 220 (by kernel_rfl) _ (w.heap.size + 1) k _ rfl HOW2 ?_)
      | go_in)
     go_ret;rw [H.out];exact ⟨rfl,over HBL.out HBL.out⟩
    ·have hz':¬ (Maps.size D:Int) < (k:Int):=by omega
     have H:Hid (Fo.err l next = 0):=by
      have:=HE.out
      rwa [if_neg hz] at this
     go_wp2_with (first
      | (at_len;refine wpList_len_own _ rfl _ 218 rfl 9 220 (by kernel_rfl) _ (w.heap.size + 1) k _ rfl HOW2 ?_)
      | go_in)
     go_ret;rw [H.out];exact ⟨rfl,over HBL.out HBL.out⟩
 ·have H1:Hid (¬ (0<=next/\next<=1099511627776)):=h1;have H:Hid (Fo.err l next = 4):=Fo.err_no fun h=>h1 h.1
  rw [H.out];clear h1;go_enter Tryz.func128,Tryz.ntmps128;go_wp2_with fail;refine (fwithin_no _ _ _ _ H1.out).mono ?_;rintro e w' ⟨rfl,rfl⟩;go_wp2;go_ret;exact ⟨rfl,qG _ _⟩
end
section
open Go.ChangeShapes Go.WideShapes Go.ChangeAt Go.RowKit Go.Deep It
theorem swithin_any (lo x hi:Int) (w:World):Calls Tryz.prog 204 #[.int .i64 lo,.int .i64 x,.int .i64 hi] w fun e w'=>e = .returned (.bool (decide (lo<=x/\x<=hi)))/\w' = w:=by
  by_cases h1:lo<=x
  · by_cases h2 : x ≤ hi
    · rw [decide_eq_true (show lo ≤ x ∧ x ≤ hi from ⟨h1, h2⟩)]
      go_enter Tryz.func204,Tryz.ntmps204;go_wp2;go_ret;exact ⟨rfl,rfl⟩
    · rw [decide_eq_false (show ¬ (lo ≤ x ∧ x ≤ hi) from fun h => h2 h.2)]
      go_enter Tryz.func204,Tryz.ntmps204;go_wp2;go_ret;exact ⟨rfl,rfl⟩
  · rw [decide_eq_false (show ¬ (lo ≤ x ∧ x ≤ hi) from fun h => h1 h.1)]
    go_enter Tryz.func204,Tryz.ntmps204;go_wp2;go_ret;exact ⟨rfl,rfl⟩
/-- An inode in a block of its own. -/
abbrev BIx (x:Rw):Obj:=B8 x.i.gen x.i.kind x.i.links x.i.size x.i.stamp (.slice x.rp x.rn x.rc) (.slice x.ep x.en x.ec) x.i.next
theorem isDir_any (x:Rw) (w:World):Calls Tryz.prog 127 #[VI x] w fun e w'=>e = .returned (.bool (x.i.kind == 2))/\w' = w.alloc (BIx x):=by
  go_enter Tryz.func127,Tryz.ntmps127;go_wp2;go_ret;exact ⟨rfl,rfl⟩
theorem dirOf_any (x:Rw) (w:World):Calls Tryz.prog 129 #[VI x] w fun e w'=>e = .returned (VD (.slice x.ep x.en x.ec) x.i.next)/\Bw w w':=by
  obtain ⟨⟨q0,q1,q2,q3,q4,q5,q6,q7⟩,-⟩:=eight_of (heap_alloc_new w (BIx x));have k6:=(cell_older (by simp) (.cells #[.slice none 0 0,.int .i64 0] 142) 6).trans q6;have k7:=(cell_older (by simp) (.cells #[.slice none 0 0,.int .i64 0] 142) 7).trans q7;clear q0 q1 q2 q3 q4 q5 q6 q7;go_enter Tryz.func129,Tryz.ntmps129;go_wp2
  (try simp only [Exit.inBlock,Exit.then])
  refine bodyPost_ret (v:=VD (.slice x.ep x.en x.ec) x.i.next) ?_ rfl ⟨rfl,?_⟩
  · rw [results_cell1 rfl]
    go_simp
  · exact (qG _ _).alloc (by simp) _
namespace Sp
def fold (x:Ino):Prop:=x.kind = 2->Fo.Right x.ents x.next/\x.size = x.ents.length
def folds (L:List Ino):Prop:=∀ x∈L,fold x
open Classical in
noncomputable def foldsB (L:List Ino):Bool:=decide (folds L)
open Classical in
theorem foldsB_yes {L:List Ino} (h:folds L):foldsB L = true:=by
 unfold foldsB;exact decide_eq_true h
open Classical in
theorem foldsB_no {L:List Ino} (h:¬ folds L):foldsB L = false:=by
 unfold foldsB;exact decide_eq_false h
def okN (L:List Rw):Prop:=∀ x∈L,∀ e∈x.i.ents,e.1.size<=maxLen
end Sp
theorem eight_block {w wr:World} {b o:Nat} {x:Rw} (h:eight w b o x) (hb:Bw w wr) (hB:b < w.heap.size):eight wr b o x:=h.below hb hB
theorem rightFolders_any {S:Nat->Prop} (v:Value) (L:List Rw) (w:World) (hv:TabAt S w v L) (hok:Sp.okN L) :
  Calls Tryz.prog 69 #[v] w fun e w'=>e = .returned (.bool (Sp.foldsB (pl L)))/\Bw w w':=by
 obtain ⟨ao,cap,rfl,hm,hx⟩:=hv.open;clear hv;unfold maxLen at hm;obtain ⟨n,hn⟩:=qE L.length;rw [hn] at hm ⊢;have HN:Hid (L.length = n):=hn;have HX:Hid (∀ i x,L[i]? = some x->(∃ b off,ao = some ⟨b,off,none⟩/\b < w.heap.size/\eight w b (off + i * 8) x)/\Good S w x):=hx;have HOK:Hid (Sp.okN L):=hok;obtain ⟨r,hr⟩:=qE (Sp.foldsB (pl L));rw [hr];have HR:Hid (Sp.foldsB (pl L) = r):=hr;clear hn hx hr hok;go_enter Tryz.func69,Tryz.ntmps69;go_wp2;go_loopw [7] (fun i wr=>∃ k:Nat,k<=n/\i = .int .i64 k/\Hid (∀ y∈L.take k,Sp.fold y.i)/\Hid (Bw w wr)) (fun i _=>n - (intOf i).toNat)
 case atStart=>exact ⟨0,Nat.zero_le _,rfl,fun y hy=>(by simp at hy),Below.refl _ _⟩
 case round =>
  obtain ⟨k,hk,rfl,HP,HB⟩:=hrel;have hsz:=HB.out.size
  by_cases hlt:k < n
  ·obtain ⟨x,hxk⟩:∃ x,L[k]? = some x:=⟨_,List.getElem?_eq_getElem (by rw [HN.out];exact hlt)⟩;have HXK:Hid (L[k]? = some x):=hxk;obtain ⟨⟨b,off,rfl,hB,hc⟩,hg⟩:=HX.out k x hxk;obtain ⟨c0,c1,c2,c3,c4,c5,c6,c7⟩:=hc.below HB.out hB;have HG:Hid (Good S (wr.alloc (BIx x)) x):=(hg.up HB.out).up (qG _ _);have HSM:Hid (∀ e∈x.i.ents,e.1.size<=maxLen):=HOK.out x (List.mem_of_getElem? hxk);have hlt':(k:Int) < (n:Int):=by omega
   have HB1:Hid (Bw w (wr.alloc (BIx x))):=HB.out.alloc hsz _;have HEN:Hid (x.en = x.i.ents.length):=hg.len.2;have HSUC:Hid (Sp.fold x.i->∀ y∈L.take (k + 1),Sp.fold y.i):=fun h y hy=>by
    rw [List.take_add_one,HXK.out] at hy;rcases List.mem_append.1 hy with hy | hy
    ·exact HP.out y hy
    ·simp at hy;subst hy;exact h
   have HBAD:Hid (¬ Sp.fold x.i->r = false):=fun h=>by
    rw [← HR.out];exact Sp.foldsB_no fun ha=>h (ha x.i (List.mem_map_of_mem (List.mem_of_getElem? HXK.out)))
   obtain ⟨⟨q0,q1,q2,q3,q4,q5,q6,q7⟩,-⟩:=eight_of (heap_alloc_new wr (BIx x));clear hc hg hxk
   by_cases hkd:x.i.kind = 2
   ·have hk2:(x.i.kind == 2) = true:=by simp [hkd]
    rcases Fo.err_or x.i.ents x.i.next with ⟨he,hrt⟩ | ⟨he,hrt⟩
    ·have HE:Hid (Fo.err x.i.ents x.i.next = 0):=he
     by_cases hs:x.i.size = (x.en:Int)
     ·have HY:Hid (∀ y∈L.take (k + 1),Sp.fold y.i):=HSUC.out fun _=>⟨hrt,by rw [hs,HEN.out]⟩
      have hs1:(x.i.size != (x.en:Int)) = false:=by simp [hs]
      clear he hrt hs hkd;go_wp2_with fail;refine (isDir_any x _).mono ?_;rintro e w2 ⟨rfl,hw2⟩;rw [hk2];have hb2:Below (wr.alloc (BIx x)).heap.size (wr.alloc (BIx x)) w2:=by rw [hw2];exact qG _ _
      have HB2:Hid (Bw w w2):=HB1.out.trans (hb2.mono HB1.out.size);have HG2:Hid (Good S w2 x):=HG.out.up hb2;have HX2:Hid (w2.heap[wr.heap.size]? = some (BIx x)):=(hb2.block _ (by simp)).trans (heap_alloc_new wr (BIx x));clear hw2 hb2 q0 q1 q2 q3 q4 q5 q6 q7;obtain ⟨⟨q0,q1,q2,q3,q4,q5,q6,q7⟩,-⟩:=eight_of HX2.out;go_wp2_with fail;refine (dirOf_any x _).mono ?_;rintro e w3 ⟨rfl,hb3⟩;have HB3:Hid (Bw w w3):=HB2.out.trans (hb3.mono HB2.out.size);have HG3:Hid (Good S w3 x):=HG2.out.up hb3;have HX3:Hid (w3.heap[wr.heap.size]? = some (BIx x)):=(hb3.block _ (qL HX2.out)).trans HX2.out;clear hb3 q0 q1 q2 q3 q4 q5 q6 q7;go_wp2_with fail;refine (fcheck_any _ x.i.ents x.i.next _ HG3.out.2.1.wide HSM.out).mono ?_;rintro e w4 ⟨rfl,hb4⟩;rw [HE.out];have HB4:Hid (Bw w w4):=HB3.out.trans (hb4.mono HB3.out.size);obtain ⟨⟨q0,q1,q2,q3,q4,q5,q6,q7⟩,-⟩:=eight_of ((hb4.block _ (qL HX3.out)).trans HX3.out);clear hb4;go_wp2
      go_roundw
      case rel=>exact ⟨k + 1,by omega,by go_num,HY,HB4⟩
      case measure=>simp [intOf];omega
     ·have H:Hid (r = false):=HBAD.out fun h=>hs (by rw [(h hkd).2,HEN.out])
      have hs1:(x.i.size != (x.en:Int)) = true:=by simp [hs]
      clear he hrt hs hkd;go_wp2_with fail;refine (isDir_any x _).mono ?_;rintro e w2 ⟨rfl,hw2⟩;rw [hk2];have hb2:Below (wr.alloc (BIx x)).heap.size (wr.alloc (BIx x)) w2:=by rw [hw2];exact qG _ _
      have HB2:Hid (Bw w w2):=HB1.out.trans (hb2.mono HB1.out.size);have HG2:Hid (Good S w2 x):=HG.out.up hb2;have HX2:Hid (w2.heap[wr.heap.size]? = some (BIx x)):=(hb2.block _ (by simp)).trans (heap_alloc_new wr (BIx x));clear hw2 hb2 q0 q1 q2 q3 q4 q5 q6 q7;obtain ⟨⟨q0,q1,q2,q3,q4,q5,q6,q7⟩,-⟩:=eight_of HX2.out;go_wp2_with fail;refine (dirOf_any x _).mono ?_;rintro e w3 ⟨rfl,hb3⟩;have HB3:Hid (Bw w w3):=HB2.out.trans (hb3.mono HB2.out.size);have HG3:Hid (Good S w3 x):=HG2.out.up hb3;have HX3:Hid (w3.heap[wr.heap.size]? = some (BIx x)):=(hb3.block _ (qL HX2.out)).trans HX2.out;clear hb3 q0 q1 q2 q3 q4 q5 q6 q7;go_wp2_with fail;refine (fcheck_any _ x.i.ents x.i.next _ HG3.out.2.1.wide HSM.out).mono ?_;rintro e w4 ⟨rfl,hb4⟩;rw [HE.out];have HB4:Hid (Bw w w4):=HB3.out.trans (hb4.mono HB3.out.size);obtain ⟨⟨q0,q1,q2,q3,q4,q5,q6,q7⟩,-⟩:=eight_of ((hb4.block _ (qL HX3.out)).trans HX3.out);clear hb4;go_wp2;go_ret;rw [H.out];exact ⟨rfl,HB4.out⟩
    ·have HE:Hid (Fo.err x.i.ents x.i.next = 4):=he;have H:Hid (r = false):=HBAD.out fun h=>hrt (h hkd).1
     clear he hrt hkd;go_wp2_with fail;refine (isDir_any x _).mono ?_;rintro e w2 ⟨rfl,hw2⟩;rw [hk2];have hb2:Below (wr.alloc (BIx x)).heap.size (wr.alloc (BIx x)) w2:=by rw [hw2];exact qG _ _
     have HB2:Hid (Bw w w2):=HB1.out.trans (hb2.mono HB1.out.size);have HG2:Hid (Good S w2 x):=HG.out.up hb2;have HX2:Hid (w2.heap[wr.heap.size]? = some (BIx x)):=(hb2.block _ (by simp)).trans (heap_alloc_new wr (BIx x));clear hw2 hb2 q0 q1 q2 q3 q4 q5 q6 q7;obtain ⟨⟨q0,q1,q2,q3,q4,q5,q6,q7⟩,-⟩:=eight_of HX2.out;go_wp2_with fail;refine (dirOf_any x _).mono ?_;rintro e w3 ⟨rfl,hb3⟩;have HB3:Hid (Bw w w3):=HB2.out.trans (hb3.mono HB2.out.size);have HG3:Hid (Good S w3 x):=HG2.out.up hb3;have HX3:Hid (w3.heap[wr.heap.size]? = some (BIx x)):=(hb3.block _ (qL HX2.out)).trans HX2.out;clear hb3 q0 q1 q2 q3 q4 q5 q6 q7;go_wp2_with fail;refine (fcheck_any _ x.i.ents x.i.next _ HG3.out.2.1.wide HSM.out).mono ?_;rintro e w4 ⟨rfl,hb4⟩;rw [HE.out];have HB4:Hid (Bw w w4):=HB3.out.trans (hb4.mono HB3.out.size);obtain ⟨⟨q0,q1,q2,q3,q4,q5,q6,q7⟩,-⟩:=eight_of ((hb4.block _ (qL HX3.out)).trans HX3.out);clear hb4;go_wp2;go_ret;rw [H.out];exact ⟨rfl,HB4.out⟩
   ·have hk2:(x.i.kind == 2) = false:=beq_eq_false_iff_ne.2 hkd;have HY:Hid (∀ y∈L.take (k + 1),Sp.fold y.i):=HSUC.out fun h=>absurd h hkd
    clear hkd;go_wp2_with fail;refine (isDir_any x _).mono ?_;rintro e w2 ⟨rfl,rfl⟩;have HB2:Hid (Bw w ((wr.alloc (BIx x)).alloc (BIx x))):=HB1.out.alloc HB1.out.size _;rw [hk2];go_wp2
    go_roundw
    case rel=>exact ⟨k + 1,by omega,by go_num,HY,HB2⟩
    case measure=>simp [intOf];omega
  ·obtain rfl:k = n:=by omega
   have H:Hid (r = true):=by
    rw [← HR.out];refine Sp.foldsB_yes fun y hy=>?_
    obtain ⟨x,hx,rfl⟩:=List.mem_map.1 hy;exact HP.out x (by rw [← HN.out,List.take_length];exact hx)
   go_wp2;go_ret;rw [H.out];exact ⟨rfl,HB.out⟩
end
end Go.Proofs.YtneojimodomohaaGreat
