/- TFields, TFind, RPlain, RBackP, ZPlain, NCk2, KBase, NTk, NFnd, as one. -/
import Derived.Test.YtggoccfddnpelaaGreatR15
namespace Go.Proofs.YtggoccfddnpelaaGreat.Ks
open Go.ChangeShapes Go.WideShapes Go.ChangeAt Go.RowKit Go.Deep
set_option maxRecDepth 100000
/-- The value v stands for the list l of fields, whose cells lie below block number B. -/
def FieldsAt (B : Nat) (w : World) (v : Value) (l : List (Int × ByteArray)) : Prop :=
  (∃ ao cap,v = .slice ao 0 cap/\l = []) ∨
  (∃ b off cap,v = .slice (some ⟨b,off,none⟩) l.length cap/\b < B/\0 < l.length/\l.length<=cap/\cap<=maxLen /\
    ∀ i,i < l.length->w.cell? ⟨b,off + i * 2,none⟩ = some (.int .i64 (l.getD i (0,.empty)).1)/\w.cell? ⟨b,off + i * 2 + 1,none⟩ = some (.string (l.getD i (0,.empty)).2))
theorem FieldsAt.below {B C:Nat} {w w':World} {v:Value} {l:List (Int × ByteArray)} (h:FieldsAt B w v l) (hb:Below C w w') (hC:B<=C):FieldsAt B w' v l:=by
  rcases h with h | ⟨b,off,cap,hv,hB,hp,hc,hm,hx⟩
  · exact .inl h
  · refine .inr ⟨b, off, cap, hv, hB, hp, hc, hm, fun i hi => ?_⟩
    rw [hb.cell (p:=⟨b,off + i * 2,none⟩) (by show b < C;omega),hb.cell (p:=⟨b,off + i * 2 + 1,none⟩) (by show b < C;omega)]
    exact hx i hi
theorem FieldsAt.mono {B C:Nat} {w:World} {v:Value} {l:List (Int × ByteArray)} (h:FieldsAt B w v l) (hC:B<=C):FieldsAt C w v l:=by
  rcases h with h | ⟨b,off,cap,hv,hB,hp,hc,hm,hx⟩
  · exact .inl h
  · exact .inr ⟨b,off,cap,hv,by omega,hp,hc,hm,hx⟩
/-- What reads as fields: each tag an int, each value a string that can be. -/
def okFields (l:List (Int × ByteArray)):Prop:=∀ x∈l,(-9223372036854775808<=x.1/\x.1<=9223372036854775807)/\x.2.size<=maxLen
theorem okFields.at {l:List (Int × ByteArray)} (h:okFields l) {i:Nat} (hi:i < l.length):(-9223372036854775808<=(l.getD i (0,.empty)).1/\(l.getD i (0,.empty)).1<=9223372036854775807)/\(l.getD i (0,.empty)).2.size<=maxLen:=by
  have:l.getD i (0,.empty)∈l:=by simp [List.getD,hi]
  exact h _ this
/-- The value v stands for the list l of strings, whose cells lie below block number B. -/
def StrsAt (B : Nat) (w : World) (v : Value) (l : List ByteArray) : Prop :=
  (∃ ao cap,v = .slice ao 0 cap/\l = []) ∨
  (∃ b off cap,v = .slice (some ⟨b,off,none⟩) l.length cap/\b < B/\0 < l.length/\l.length<=cap/\cap<=maxLen /\
    ∀ i,i < l.length->w.cell? ⟨b,off + i,none⟩ = some (.string (l.getD i .empty)))
theorem StrsAt.below {B C:Nat} {w w':World} {v:Value} {l:List ByteArray} (h:StrsAt B w v l) (hb:Below C w w') (hC:B<=C):StrsAt B w' v l:=by
  rcases h with h | ⟨b,off,cap,hv,hB,hp,hc,hm,hx⟩
  · exact .inl h
  · refine .inr ⟨b, off, cap, hv, hB, hp, hc, hm, fun i hi => ?_⟩
    rw [hb.cell (p:=⟨b,off + i,none⟩) (by show b < C;omega)]
    exact hx i hi
/-- An own row of strings, as a list. -/
theorem StrsAt.of_own {base:Nat} {w:World} {v:Value} {e:TypeId} {l:List ByteArray} (h:w.ownsRow base e 1 v l.length (l.map Value.string)):StrsAt w.heap.size w v l:=by
  have hlt:=h.lt
  rcases h.2 with ⟨rfl,hn⟩ | ⟨g,cap,cur,rfl,hbg,hg,hnc,hcm,hcs,htake⟩
  · exact .inl ⟨none,0,rfl,List.eq_nil_of_length_eq_zero hn⟩
  · by_cases hp : 0 < l.length
    · refine .inr ⟨g, 0, cap, rfl, (hlt g rfl).2, hp, hnc, hcm, fun i hi => ?_⟩
      have:=h.cells (g:=g) rfl i (.string (l.getD i .empty)) (by simp [List.getD,hi])
      rw [WideShapes.add_plain] at this
      exact this
    · have : l = [] := List.eq_nil_of_length_eq_zero (by omega)
      subst this
      exact .inl ⟨_,_,rfl,rfl⟩
/-- An own row of fields, as a list. -/
def cellsOf (l:List (Int × ByteArray)):List Value:=l.flatMap fun x=>[.int .i64 x.1,.string x.2]
theorem cellsOf_append (l m:List (Int × ByteArray)):cellsOf (l ++ m) = cellsOf l ++ cellsOf m:=by simp [cellsOf]
theorem cellsOf_at (l:List (Int × ByteArray)):∀ i,i < l.length->(cellsOf l)[i * 2]? = some (.int .i64 (l.getD i (0,.empty)).1)/\(cellsOf l)[i * 2 + 1]? = some (.string (l.getD i (0,.empty)).2):=by
  induction l with
  | nil=>intro i hi;simp at hi
  | cons x l ih =>
    intro i hi
    match i,hi with
    | 0,_=>simp [cellsOf]
    | i + 1, hi =>
      have:=ih i (by simpa using hi)
      have e:cellsOf (x :: l) = .int .i64 x.1 :: .string x.2 :: cellsOf l:=by simp [cellsOf]
      rw [e,show (i + 1) * 2 = i * 2 + 1 + 1 from by omega]
      simpa using this
theorem FieldsAt.of_own {base:Nat} {w:World} {v:Value} {e:TypeId} {l:List (Int × ByteArray)} (h:w.ownsRow base e 2 v l.length (cellsOf l)):FieldsAt w.heap.size w v l:=by
  have hlt:=h.lt
  rcases h.2 with ⟨rfl,hn⟩ | ⟨g,cap,cur,rfl,hbg,hg,hnc,hcm,hcs,htake⟩
  · exact .inl ⟨none,0,rfl,List.eq_nil_of_length_eq_zero hn⟩
  · by_cases hp : 0 < l.length
    · refine .inr ⟨g, 0, cap, rfl, (hlt g rfl).2, hp, hnc, hcm, fun i hi => ?_⟩
      have h0:=h.cells (g:=g) rfl (i * 2) _ (cellsOf_at l i hi).1
      have h1:=h.cells (g:=g) rfl (i * 2 + 1) _ (cellsOf_at l i hi).2
      rw [WideShapes.add_plain] at h0 h1
      exact ⟨h0,by rw [Nat.add_assoc];exact h1⟩
    · have : l = [] := List.eq_nil_of_length_eq_zero (by omega)
      subst this
      exact .inl ⟨_,_,rfl,rfl⟩
namespace Pl
def allOf (l:List (Int × ByteArray)) (tag:Int):List ByteArray:=(l.filter fun x=>x.1 == tag).map (·.2)
end Pl
namespace Pl
theorem take_getD {l:List (Int × ByteArray)} {k:Nat} (hk:k < l.length):l.take (k + 1) = l.take k ++ [l.getD k (0,.empty)]:=by
  rw [List.take_succ_eq_append_getElem hk];simp [List.getD,hk]
theorem allOf_hit {l:List (Int × ByteArray)} {tag:Int} {k:Nat} {x:Int × ByteArray} (hk:k < l.length) (h:l.getD k (0,.empty) = x) (hx:(x.1 == tag) = true):allOf (l.take (k + 1)) tag = allOf (l.take k) tag ++ [x.2]:=by
  rw [take_getD hk,h];simp [allOf,hx]
theorem allOf_miss {l:List (Int × ByteArray)} {tag:Int} {k:Nat} {x:Int × ByteArray} (hk:k < l.length) (h:l.getD k (0,.empty) = x) (hx:(x.1 == tag) = false):allOf (l.take (k + 1)) tag = allOf (l.take k) tag:=by
  rw [take_getD hk,h];simp [allOf,hx]
theorem allOf_le (l:List (Int × ByteArray)) (tag:Int) (k:Nat):(allOf (l.take k) tag).length<=k:=by
  simp only [allOf,List.length_map]
  exact Nat.le_trans (List.length_filter_le _ _) (List.length_take_le _ _)
end Pl
theorem info9:(Tryz.prog.info? 9).map (fun i=>(i.zero,i.size,i.bytes)) = some (some (.string ⟨#[]⟩),1,16):=by kernel_rfl
set_option maxHeartbeats 1000000 in
theorem all_any (v : Value) (l : List (Int × ByteArray)) (tag : Int) (w : World) (hv : FieldsAt w.heap.size w v l) (hr : l.length * 24 ≤ 140737488351232) :
    Calls Tryz.prog 152 #[v,.int .i64 tag] w fun e w'=>∃ r,e = .returned r/\w'.ownsRow w.heap.size 9 1 r (Pl.allOf l tag).length ((Pl.allOf l tag).map Value.string)/\Below w.heap.size w w':=by
  rcases hv with ⟨ao,cap,rfl,rfl⟩ | ⟨b,off,cap,rfl,hB,hp,hlc,hm,hx⟩
  · go_enter Tryz.func152, Tryz.ntmps152
    go_wp2
    refine wp_loop_rounds 1 ?_
    rw [rounds_succ]
    go_wp2
    go_ret
    exact ⟨_,rfl,World.ownsRow_nil _ _ _ _,Below.refl _ _⟩
  · unfold maxLen at hm
    obtain ⟨i0,hi,hz0,hz1,hz2⟩:=info_parts info9
    obtain ⟨n,hn⟩:∃ n,l.length = n:=⟨_,rfl⟩
    rw [hn] at hp hlc hx hr ⊢
    have HN:Hid (l.length = n):=hn
    have HX:Hid (∀ i,i < n->w.cell? ⟨b,off + i * 2,none⟩ = some (.int .i64 (l.getD i (0,.empty)).1)/\w.cell? ⟨b,off + i * 2 + 1,none⟩ = some (.string (l.getD i (0,.empty)).2)):=hx
    clear hn hx
    go_enter Tryz.func152,Tryz.ntmps152
    go_wp2
    go_loopw [5,10] (fun r i wr=>∃ k:Nat,k<=n/\i = .int .i64 k/\wr.ownsRow w.heap.size 9 1 r (Pl.allOf (l.take k) tag).length ((Pl.allOf (l.take k) tag).map Value.string)/\Below w.heap.size w wr) (fun _ i _=>n - (intOf i).toNat)
    case atStart=>exact ⟨0,Nat.zero_le _,rfl,World.ownsRow_nil _ _ _ _,Below.refl _ _⟩
    case round =>
      obtain ⟨k,hk,rfl,hown,hbl⟩:=hrel
      by_cases hlt:k < n
      · obtain ⟨c0, c1⟩ := HX.out k hlt
        rw [← hbl.cell (p:=⟨b,off + k * 2,none⟩) hB] at c0
        rw [← hbl.cell (p:=⟨b,off + k * 2 + 1,none⟩) hB] at c1
        generalize hf:l.getD k (0,.empty) = f at *
        have HF:Hid (l.getD k (0,.empty) = f):=hf
        clear hf
        obtain ⟨t,s⟩:=f
        by_cases ht:t = tag
        · subst ht
          have hle:=Pl.allOf_le l t k
          have HA:Hid (Pl.allOf (l.take (k + 1)) t = Pl.allOf (l.take k) t ++ [s]):=Pl.allOf_hit (by rw [HN.out];exact hlt) HF.out (by simp)
          generalize Pl.allOf (l.take k) t = A at *
          have hsz:=hbl.size
          go_wp2_with (at_builtin;refine wpList_append_own _ rfl _ _ 186 rfl w.heap.size 9 i0 (.string ⟨#[]⟩) 1 16 Tryz.underlying186 hi hz0 hz1 hz2 rfl (by decide) _ _ _ rfl ((hown.alloc _).alloc _) ⟨wr.heap.size + 1,0,none⟩ 1 1 [.string s] rfl rfl ?c1 ?c2 ?c3 ?c4 ?c5 ?_)
          case c2=>rfl
          case c3=>unfold maxLen;omega
          case c4=>omega
          case c5=>omega
          intro v' w1 hown' hgrow _
          have hb':Below w.heap.size w w1:=((hbl.alloc hsz _).alloc (by simp;omega) _).grown hgrow (by simp;omega) (fun g hg=>(hown.lt g hg).1)
          have R0:w1.ownsRow w.heap.size 9 1 v' (Pl.allOf (l.take (k + 1)) t).length ((Pl.allOf (l.take (k + 1)) t).map Value.string):=by
            rw [HA.out]
            simpa using hown'
          have R:Hid (w1.ownsRow w.heap.size 9 1 v' (Pl.allOf (l.take (k + 1)) t).length ((Pl.allOf (l.take (k + 1)) t).map Value.string)):=R0
          clear hown' hgrow hown R0
          go_wp2
          go_roundw
          case rel=>exact ⟨k + 1,by omega,by go_num,R.out,hb'⟩
          case measure=>simp [intOf];omega
        · have ht' : (t == tag) = false := by simp [ht]
          have HA:Hid (Pl.allOf (l.take (k + 1)) tag = Pl.allOf (l.take k) tag):=Pl.allOf_miss (by rw [HN.out];exact hlt) HF.out ht'
          go_wp2
          go_roundw
          case rel=>exact ⟨k + 1,by omega,by go_num,by rw [HA.out];exact hown.alloc _,hbl.alloc hbl.size _⟩
          case measure=>simp [intOf];omega
      · obtain rfl : k = n := by omega
        rw [List.take_of_length_le (by rw [HN.out];exact Nat.le_refl _)] at hown
        go_wp2
        go_ret
        exact ⟨_,rfl,hown,hbl⟩
end Go.Proofs.YtggoccfddnpelaaGreat.Ks
namespace Go.Proofs.YtggoccfddnpelaaGreat.Ks.Rs
open Go.Proofs.YtggoccfddnpelaaGreat.Ks.Ak
set_option maxRecDepth 100000
structure Rep where
  e:Int
  no:Int
  gen:Int
  k:Int
  l:Int
  s:Int
  t:Int
  data:ByteArray
  ents:List Ent
  n:Int
namespace Re
def zero:Rep:=⟨0,0,0,0,0,0,0,⟨#[]⟩,[],0⟩
def entP (last:Int) (x:Ent):Prop:=(last + 1<=x.2.1/\x.2.1<=1099511627776)/\Nm.ok x.1/\hokP x.2.2.1 x.2.2.2
def entsP:Int->List Ent->Prop
  | _,[]=>True
  | last,x :: l=>entP last x/\entsP x.2.1 l
def rightP (r:Rep):Prop:=(0<=r.e/\r.e<=65535)/\hokP r.no r.gen/\At.right r.k r.l r.s r.t = true/\r.data.size<=512/\(r.ents.length<=64/\entsP 0 r.ents)/\(0<=r.n/\r.n<=1099511627776)
/-- The same, decided. -/
def entB (last:Int) (x:Ent):Bool:=decide (last + 1<=x.2.1/\x.2.1<=1099511627776) && (Nm.okB x.1 && hok x.2.2.1 x.2.2.2)
def allB:Int->List Ent->Bool
  | _,[]=>true
  | last,x :: l=>entB last x && allB x.2.1 l
theorem allB_iff:∀ {last:Int} {l:List Ent},allB last l = true ↔ entsP last l
  | _,[]=>by simp [allB,entsP]
  | last, x :: l => by
    unfold allB entsP entB entP hok
    rw [Bool.and_eq_true,allB_iff,Bool.and_eq_true,Bool.and_eq_true,Nm.okB_iff,decide_eq_true_eq,decide_eq_true_eq]
def entsB (l:List Ent):Bool:=decide (l.length<=64) && allB 0 l
theorem entsB_iff {l:List Ent}:entsB l = true ↔ (l.length<=64/\entsP 0 l):=by unfold entsB;rw [Bool.and_eq_true,decide_eq_true_eq,allB_iff]
theorem entsB_no {l:List Ent}:entsB l = false ↔ ¬ (l.length<=64/\entsP 0 l):=by rw [← entsB_iff];simp
def right (r:Rep):Bool:=decide (0<=r.e/\r.e<=65535) && (hok r.no r.gen && (At.right r.k r.l r.s r.t && (decide (r.data.size<=512) && (entsB r.ents && decide (0<=r.n/\r.n<=1099511627776)))))
theorem right_iff {r:Rep}:right r = true ↔ rightP r:=by
  unfold right rightP hok
  rw [Bool.and_eq_true,Bool.and_eq_true,Bool.and_eq_true,Bool.and_eq_true,Bool.and_eq_true,entsB_iff,decide_eq_true_eq,decide_eq_true_eq,decide_eq_true_eq,decide_eq_true_eq]
theorem wrong_iff {r:Rep}:right r = false ↔ ¬ rightP r:=by rw [← right_iff];simp
def anz (k l s t:Int):Bool:=!(k == 0 && (l == 0 && (s == 0 && t == 0)))
def ebytes (x:Ent):ByteArray:=Pl.numOut x.2.1 6 ++ hbytes x.2.2.1 x.2.2.2 ++ x.1
def f1 (r:Rep):List (Int × ByteArray):=opt (r.e != 0) (1,Pl.numOut r.e 2)
def f2 (r:Rep):=f1 r ++ opt (hnz r.no r.gen) (2,hbytes r.no r.gen)
def f3 (r:Rep):=f2 r ++ opt (anz r.k r.l r.s r.t) (3,At.packOut r.k r.l r.s r.t)
def f4 (r:Rep):=f3 r ++ opt (snz r.data) (4,r.data)
def ef (l:List Ent):List (Int × ByteArray):=l.map fun x=>(5,ebytes x)
def f5 (r:Rep):=f4 r ++ ef r.ents
def fields (r:Rep):=f5 r ++ opt (r.n != 0) (6,Pl.numOut r.n 6)
def packOut (r:Rep):ByteArray:=if right r then Pl.txt (Pl.encs (fields r)) else ⟨#[]⟩
def packErr (r:Rep):Int:=if right r then 0 else 4
theorem entsP_mem:∀ {l:List Ent} {last:Int},entsP last l->0<=last->∀ x∈l,(1<=x.2.1/\x.2.1<=1099511627776)/\Nm.ok x.1/\hokP x.2.2.1 x.2.2.2
  | [],_,_,_,x,hx=>by cases hx
  | y :: l, last, h, h0, x, hx => by
    obtain ⟨⟨⟨h1,h2⟩,h3,h4⟩,h5⟩:=h
    rcases List.mem_cons.1 hx with rfl | hx
    · exact ⟨⟨by omega,h2⟩,h3,h4⟩
    · exact entsP_mem h5 (by omega) x hx
theorem cookie_of {c:Int} (h:1<=c/\c<=1099511627776):0<=c/\c.toNat < 256 ^ 6:=⟨by omega,by omega⟩
theorem ebytes_size {x:Ent} (hc:1<=x.2.1/\x.2.1<=1099511627776) (hh:hokP x.2.2.1 x.2.2.2):(ebytes x).size = 13 + x.1.size:=by
  have h1:(Pl.numOut x.2.1 6).size = 6:=num_size (z:=6) (cookie_of hc).1 (by omega) (by omega) (cookie_of hc).2
  have h2:=hbytes_size hh
  unfold ebytes
  rw [ByteArray.size_append,ByteArray.size_append,h1,h2]
/-- The entry that bytes are. -/
def entOf (s:ByteArray):Ent:=if s.size < 13 then (⟨#[]⟩,0,0,0) else (s.extract 13 s.size,Pl.numVal (s.extract 0 6),hno (s.extract 6 13),hgen (s.extract 6 13))
theorem ent_back {x:Ent} (hc:1<=x.2.1/\x.2.1<=1099511627776) (hh:hokP x.2.2.1 x.2.2.2):entOf (ebytes x) = x:=by
  have hs:=ebytes_size hc hh
  have h1:(Pl.numOut x.2.1 6).size = 6:=num_size (z:=6) (cookie_of hc).1 (by omega) (by omega) (cookie_of hc).2
  have h2:=hbytes_size hh
  unfold entOf
  rw [if_neg (by omega),hs]
  unfold ebytes
  have e0:(Pl.numOut x.2.1 6 ++ hbytes x.2.2.1 x.2.2.2 ++ x.1).extract 0 6 = Pl.numOut x.2.1 6:=by
    rw [Pl.ba_assoc];exact extract_left _ _ 6 h1
  have e1:(Pl.numOut x.2.1 6 ++ hbytes x.2.2.1 x.2.2.2 ++ x.1).extract 6 13 = hbytes x.2.2.1 x.2.2.2:=Pl.cut_mid _ _ _ 6 13 h1 (by omega)
  have e2:(Pl.numOut x.2.1 6 ++ hbytes x.2.2.1 x.2.2.2 ++ x.1).extract 13 (13 + x.1.size) = x.1:=extract_right _ _ 13 _ (by rw [ByteArray.size_append];omega) (by rw [ByteArray.size_append];omega)
  rw [e0,e1,e2,(hback hh).1,(hback hh).2]
  have e3:Pl.numVal (Pl.numOut x.2.1 6) = x.2.1:=val_num (z:=6) (cookie_of hc).1 (by omega) (by omega) (cookie_of hc).2
  rw [e3]
/-- The attributes that bytes are. -/
def ua (S:ByteArray):Int × Int × Int × Int:=if At.unpErr S = 0 then (At.k S,At.l S,At.s S,At.t S) else (0,0,0,0)
theorem ua_out (S:ByteArray):At.unpOut S = VA (ua S).1 (ua S).2.1 (ua S).2.2.1 (ua S).2.2.2:=by
  unfold At.unpOut ua
  split <;> rfl
theorem ua_back {k l s t:Int} (h:At.right k l s t = true):ua (At.packOut k l s t) = (k,l,s,t):=by
  obtain ⟨_,h1,h2⟩:=At.back h
  rw [ua_out] at h2
  simp only [Value.agg.injEq,Array.mk.injEq,List.cons.injEq,Value.int.injEq,true_and,and_true] at h2
  obtain ⟨a,b,c,d⟩:=h2
  exact Prod.ext a (Prod.ext b (Prod.ext c d))
/-- The reply that fields say. -/
def replyOf (l:List (Int × ByteArray)):Rep :=
  ⟨Pl.numVal (lastOf l 1),hno (lastOf l 2),hgen (lastOf l 2),(ua (lastOf l 3)).1,(ua (lastOf l 3)).2.1,(ua (lastOf l 3)).2.2.1,(ua (lastOf l 3)).2.2.2,lastOf l 4,(Pl.allOf l 5).map entOf,Pl.numVal (lastOf l 6)⟩
theorem lastOf_opt (l:List (Int × ByteArray)) (b:Bool) (t:Int) (s:ByteArray) (u:Int):lastOf (l ++ opt b (t,s)) u = if b = true/\t = u then s else lastOf l u:=by
  unfold opt
  cases b with
  | true =>
    rw [if_pos rfl,lastOf_snoc]
    by_cases h:t = u <;> simp [h]
  | false=>simp
theorem lastOf_ents (es:List Ent) (l:List (Int × ByteArray)) (u:Int) (h:u≠5):lastOf (l ++ ef es) u = lastOf l u:=by
  induction es using rev_ind with
  | h0=>simp [ef]
  | h1 es x ih =>
    have:ef (es ++ [x]) = ef es ++ [(5,ebytes x)]:=by simp [ef]
    rw [this,← List.append_assoc,lastOf_snoc,if_neg (by simp only;omega),ih]
theorem allOf_append (a b:List (Int × ByteArray)) (t:Int):Pl.allOf (a ++ b) t = Pl.allOf a t ++ Pl.allOf b t:=by simp [Pl.allOf]
theorem allOf_opt (b:Bool) (t:Int) (s:ByteArray) (u:Int) (h:t≠u):Pl.allOf (opt b (t,s)) u = []:=by
  unfold opt
  cases b <;> simp [Pl.allOf,h]
theorem allOf_ef (es:List Ent):Pl.allOf (ef es) 5 = es.map ebytes:=by
  unfold ef Pl.allOf
  rw [List.filter_eq_self.2 (by intro x hx;obtain ⟨y,_,rfl⟩:=List.mem_map.1 hx;simp),List.map_map]
  rfl
theorem replyOf_fields {r:Rep} (h:rightP r):replyOf (fields r) = r:=by
  obtain ⟨he,hh,ha,hd,⟨hl,hx⟩,hn⟩:=h
  have hm:=entsP_mem hx (Int.le_refl 0)
  have z0:∀ u,lastOf ([]:List (Int × ByteArray)) u = ⟨#[]⟩:=fun _=>rfl
  have c1:lastOf (f1 r) 1 = if (r.e != 0) = true then Pl.numOut r.e 2 else ⟨#[]⟩:=by
    have:=lastOf_opt [] (r.e != 0) 1 (Pl.numOut r.e 2) 1
    rw [List.nil_append] at this
    unfold f1
    rw [this]
    simp [z0]
  have d1:∀ u,u≠1->lastOf (f1 r) u = ⟨#[]⟩:=fun u hu=>by
    have:=lastOf_opt [] (r.e != 0) 1 (Pl.numOut r.e 2) u
    rw [List.nil_append] at this
    unfold f1
    rw [this,if_neg (by intro hh;exact hu hh.2.symm),z0]
  have v1:lastOf (fields r) 1 = lastOf (f1 r) 1:=by
    unfold fields f5 f4 f3 f2
    rw [lastOf_opt,if_neg (by simp),lastOf_ents _ _ _ (by decide),lastOf_opt,if_neg (by simp),lastOf_opt,if_neg (by simp),lastOf_opt,if_neg (by simp)]
  have v2:lastOf (fields r) 2 = if hnz r.no r.gen = true then hbytes r.no r.gen else ⟨#[]⟩:=by
    unfold fields f5 f4 f3 f2
    rw [lastOf_opt,if_neg (by simp),lastOf_ents _ _ _ (by decide),lastOf_opt,if_neg (by simp),lastOf_opt,if_neg (by simp),lastOf_opt,d1 2 (by decide)]
    simp
  have v3:lastOf (fields r) 3 = if anz r.k r.l r.s r.t = true then At.packOut r.k r.l r.s r.t else ⟨#[]⟩:=by
    unfold fields f5 f4 f3 f2
    rw [lastOf_opt,if_neg (by simp),lastOf_ents _ _ _ (by decide),lastOf_opt,if_neg (by simp),lastOf_opt,lastOf_opt,d1 3 (by decide)]
    simp
  have v4:lastOf (fields r) 4 = if snz r.data = true then r.data else ⟨#[]⟩:=by
    unfold fields f5 f4 f3 f2
    rw [lastOf_opt,if_neg (by simp),lastOf_ents _ _ _ (by decide),lastOf_opt,lastOf_opt,lastOf_opt,d1 4 (by decide)]
    simp
  have v6:lastOf (fields r) 6 = if (r.n != 0) = true then Pl.numOut r.n 6 else ⟨#[]⟩:=by
    unfold fields f5 f4 f3 f2
    rw [lastOf_opt,lastOf_ents _ _ _ (by decide),lastOf_opt,lastOf_opt,lastOf_opt,d1 6 (by decide)]
    simp
  have v5:Pl.allOf (fields r) 5 = r.ents.map ebytes:=by
    unfold fields f5 f4 f3 f2 f1
    simp only [allOf_append]
    rw [allOf_opt _ _ _ _ (by decide),allOf_opt _ _ _ _ (by decide),allOf_opt _ _ _ _ (by decide),allOf_opt _ _ _ _ (by decide),allOf_opt _ _ _ _ (by decide),allOf_ef]
    simp
  have w5:(r.ents.map ebytes).map entOf = r.ents:=by
    rw [List.map_map]
    have:∀ x∈r.ents,(entOf ∘ ebytes) x = x:=fun x hx=>ent_back (hm x hx).1 (hm x hx).2.2
    exact (List.map_congr_left this).trans (List.map_id _)
  have nz:Pl.numVal ⟨#[]⟩ = 0:=by decide
  have hz:hno ⟨#[]⟩ = 0/\hgen ⟨#[]⟩ = 0:=by decide
  have uz:ua ⟨#[]⟩ = (0,0,0,0):=by
    unfold ua
    rw [if_neg]
    unfold At.unpErr
    rw [if_neg (by decide)]
    decide
  have a1:Pl.numVal (lastOf (fields r) 1) = r.e:=by
    rw [v1,c1]
    by_cases h0:r.e = 0
    · simp [h0,nz]
    · rw [if_pos (by simpa using h0)];exact val_num (z:=2) (by omega) (by omega) (by omega) (by omega)
  have a2:hno (lastOf (fields r) 2) = r.no/\hgen (lastOf (fields r) 2) = r.gen:=by
    rw [v2]
    cases hq:hnz r.no r.gen with
    | true=>rw [if_pos rfl];exact hback hh
    | false=>obtain ⟨e1,e2⟩:=hz_of hq;rw [if_neg (by decide),e1,e2];exact hz
  have a3:ua (lastOf (fields r) 3) = (r.k,r.l,r.s,r.t):=by
    rw [v3]
    cases hq:anz r.k r.l r.s r.t with
    | true=>rw [if_pos rfl];exact ua_back ha
    | false =>
      unfold anz at hq
      simp at hq
      obtain ⟨e1,e2,e3,e4⟩:=hq
      rw [if_neg (by decide),e1,e2,e3,e4]
      exact uz
  have a4:lastOf (fields r) 4 = r.data:=by
    rw [v4]
    cases hq:snz r.data with
    | true=>rw [if_pos rfl]
    | false=>rw [if_neg (by decide),empty_of hq]
  have a6:Pl.numVal (lastOf (fields r) 6) = r.n:=by
    rw [v6]
    by_cases h0:r.n = 0
    · simp [h0,nz]
    · rw [if_pos (by simpa using h0)];exact val_num (z:=6) (by omega) (by omega) (by omega) (by omega)
  unfold replyOf
  rw [a1,a2.1,a2.2,a3,a4,v5,w5,a6]
end Re
namespace Re
theorem Up.up {l:List (Int × ByteArray)} {t u:Int} {n m:Nat} (h:Up l t n) (ht:t<=u) (hm:n<=m):Up l u m:=⟨h.1,fun x hx=>Int.le_trans (h.2.1 x hx) ht,Nat.le_trans h.2.2 hm⟩
theorem Up.snoc {l:List (Int × ByteArray)} {t:Int} {n m:Nat} {s:ByteArray} (h:Up l t n) (h1:1<=t) (ht:t<=255) (hs:s.size<=m) (hm:m<=65535):Up (l ++ [(t,s)]) t (n + 3 + m):=by
  obtain ⟨h0,h2,h3⟩:=h
  refine ⟨packErr_snoc l 1 (t,s) h0 h2 h1 h1 ht (by simp only;omega),?_,?_⟩
  · intro x hx
    rcases List.mem_append.1 hx with hx | hx
    · exact h2 x hx
    · simp at hx;subst hx;exact Int.le_refl _
  · have e : Pl.encs (l ++ [(t, s)]) = Pl.encs l ++ Pl.encOne (t, s) := by simp [Pl.encs]
    have:=Pl.encOne_length (t,s)
    rw [e,List.length_append]
    simp only at this
    omega
theorem up_ents {l:List (Int × ByteArray)} {n:Nat} (h:Up l 5 n) (es:List Ent) (hs:∀ x∈es,(ebytes x).size<=45):Up (l ++ ef es) 5 (n + es.length * 48):=by
  induction es using rev_ind with
  | h0=>simpa [ef] using h
  | h1 es x ih =>
    have e:ef (es ++ [x]) = ef es ++ [(5,ebytes x)]:=by simp [ef]
    have h1:=Up.snoc (ih fun y hy=>hs y (by simp [hy])) (by omega) (by omega) (hs x (by simp)) (by omega)
    rw [e,← List.append_assoc]
    exact Up.up h1 (Int.le_refl _) (by simp only [List.length_append,List.length_cons,List.length_nil];omega)
theorem apack_le (k l s t:Int):(At.packOut k l s t).size<=32:=by
  unfold At.packOut
  split
  · have h1 := numOut_le k 1
    have h2:=numOut_le l 1
    have h3:=numOut_le s 4
    have h4:=numOut_le t 6
    rw [ByteArray.size_append,ByteArray.size_append,ByteArray.size_append]
    omega
  · exact Nat.zero_le _
theorem up_f1 (r:Rep):Up (f1 r) 1 11:=by
  have h:=numOut_le r.e 2
  unfold f1 opt
  split
  · refine ⟨?_, ?_, ?_⟩
    · have : Pl.badAt 1 (1, Pl.numOut r.e 2) = 0 := by unfold Pl.badAt; simp only; rw [if_neg (by omega), if_neg (by omega), if_neg (by omega)]
      simp [Pl.packErr,this]
    · intro x hx;simp at hx;subst hx;simp
    · have := Pl.encOne_length (1, Pl.numOut r.e 2)
      simp only at this
      simp only [Pl.encs,List.flatMap_cons,List.flatMap_nil,List.append_nil]
      omega
  · exact ⟨rfl,(fun x hx=>by cases hx),Nat.zero_le _⟩
theorem up_f4 {r:Rep} (hd:r.data.size<=512):Up (f4 r) 4 700:=by
  have a2:=(up_f1 r).opt (b:=hnz r.no r.gen) (u:=2) (s:=hbytes r.no r.gen) (by omega) (by omega) (by omega) (hbytes_le _ _) (by omega)
  have a3:=a2.opt (b:=anz r.k r.l r.s r.t) (u:=3) (s:=At.packOut r.k r.l r.s r.t) (by omega) (by omega) (by omega) (apack_le _ _ _ _) (by omega)
  have a4:=a3.opt (b:=snz r.data) (u:=4) (s:=r.data) (by omega) (by omega) (by omega) hd (by omega)
  exact Up.up a4 (Int.le_refl _) (by omega)
theorem ok_size {s:ByteArray} (h:Nm.ok s):s.size<=32:=h.2.1
theorem up_fields {r:Rep} (h:rightP r):Up (fields r) 6 4000:=by
  obtain ⟨he,hh,ha,hd,⟨hl,hx⟩,hn⟩:=h
  have hm:=entsP_mem hx (Int.le_refl 0)
  have a5:=up_ents (Up.up (up_f4 hd) (u:=5) (by omega) (Nat.le_refl _)) r.ents (fun x hx=>by
    rw [ebytes_size (hm x hx).1 (hm x hx).2.2]
    have:=ok_size (hm x hx).2.1
    omega)
  have a6:=a5.opt (b:=r.n != 0) (u:=6) (s:=Pl.numOut r.n 6) (by omega) (by omega) (by omega) (numOut_le _ _) (by omega)
  exact Up.up a6 (Int.le_refl _) (by omega)
/-- What Unpack answers. -/
def isRep (L:List UInt8):Bool:=decide (Pl.unpErr L = 0) && right (replyOf (Pl.unpOut L)) && decide (Pl.encs (fields (replyOf (Pl.unpOut L))) = L)
def unpR (L:List UInt8):Rep:=if isRep L then replyOf (Pl.unpOut L) else zero
def unpE (L:List UInt8):Int:=if isRep L then 0 else 4
theorem back {r:Rep} (h:right r = true):unpR (Pl.encs (fields r)) = r/\unpE (Pl.encs (fields r)) = 0/\(Pl.encs (fields r)).length<=4000:=by
  have hr:=right_iff.1 h
  have hu:=up_fields hr
  obtain ⟨e1,e2⟩:=Pl.unp_encs (fields r) hu.1
  have hc:isRep (Pl.encs (fields r)) = true:=by
    unfold isRep
    rw [e1,e2,replyOf_fields hr,h]
    simp
  refine ⟨?_,?_,hu.2.2⟩
  · unfold unpR;rw [if_pos hc,e1,replyOf_fields hr]
  · unfold unpE;rw [if_pos hc]
theorem unp_bad {L:List UInt8} (h:unpE L≠0):unpR L = zero/\unpE L = 4:=by
  unfold unpE at h
  unfold unpR unpE
  split at h
  · exact absurd rfl h
  · rename_i hc
    simp [hc]
theorem isRep_yes {s:ByteArray} (h0:Pl.unpErr s.data.toList = 0) (h1:packErr (replyOf (Pl.unpOut s.data.toList)) = 0) (h2:packOut (replyOf (Pl.unpOut s.data.toList)) = s):unpR s.data.toList = replyOf (Pl.unpOut s.data.toList)/\unpE s.data.toList = 0:=by
  have hr:right (replyOf (Pl.unpOut s.data.toList)) = true:=by
    unfold packErr at h1
    split at h1
    · assumption
    · cases h1
  have he:Pl.encs (fields (replyOf (Pl.unpOut s.data.toList))) = s.data.toList:=by
    unfold packOut at h2
    rw [if_pos hr] at h2
    rw [← Pl.txt_data (Pl.encs (fields (replyOf (Pl.unpOut s.data.toList)))),h2]
  have hc:isRep s.data.toList = true:=by
    unfold isRep
    rw [h0,hr,he]
    simp
  unfold unpR unpE
  rw [if_pos hc,if_pos hc]
  exact ⟨rfl,rfl⟩
theorem isRep_no {s:ByteArray} (h:Pl.unpErr s.data.toList≠0∨packErr (replyOf (Pl.unpOut s.data.toList))≠0∨packOut (replyOf (Pl.unpOut s.data.toList))≠s):unpR s.data.toList = zero/\unpE s.data.toList = 4:=by
  have hc:isRep s.data.toList = false:=by
    rw [Bool.eq_false_iff]
    intro hc
    unfold isRep at hc
    simp only [Bool.and_eq_true,decide_eq_true_eq] at hc
    obtain ⟨⟨a,b⟩,c⟩:=hc
    rcases h with h | h | h
    · exact h a
    · exact h (by unfold packErr;rw [if_pos b])
    · refine h ?_
      unfold packOut
      rw [if_pos b,c,Pl.txt_toList]
  unfold unpR unpE
  rw [hc]
  exact ⟨rfl,rfl⟩
end Re
end Go.Proofs.YtggoccfddnpelaaGreat.Ks.Rs
namespace Go.Proofs.YtggoccfddnpelaaGreat
open It Go.RowKit
set_option maxRecDepth 100000
namespace Sh
abbrev nb (n z:Int):ByteArray:=Ks.Pl.numOut n z
abbrev F:=Int × ByteArray
def head (x:Ino):ByteArray:=nb x.gen 6 ++ Ks.Rs.At.packOut x.kind x.links x.size x.stamp ++ nb x.next 6
def runF (r:Int × ByteArray):F:=(2,nb r.1 4 ++ r.2)
def entF (y:ByteArray × Int × Int × Int):F:=(3,nb y.2.1 6 ++ Ks.Ak.hbytes y.2.2.1 y.2.2.2 ++ y.1)
def fI (x:Ino):List F:=(1,head x) :: (x.runs.map runF ++ x.ents.map entF)
def inoB (x:Ino):ByteArray:=Ks.Pl.packOut (fI x)
def inoF (x:Ino):F:=(2,inoB x)
def opF (o:Os.Opn):F:=(3,nb o.1 1 ++ nb o.2.1 6 ++ Ks.Ak.hbytes o.2.2.1 o.2.2.2)
def seF (s:Es.Sea):F:=(4,nb s.1 6 ++ nb s.2.1 6 ++ s.2.2)
def fS (L:List Ino) (O:List Os.Opn) (Z:List Es.Sea) (dn:Int):List F:=(1,nb dn 6) :: (L.map inoF ++ O.map opF ++ Z.map seF)
def noRep (x:Es.Sea):Bool:=decide (Ks.Rs.Re.unpE x.2.2.data.toList≠0)
noncomputable def whole (L:List Ino) (O:List Os.Opn) (Z:List Es.Sea) (dn:Int):Bool:=Nf.right L O dn && (Es.Se.ok Z && !Z.any noRep)
noncomputable def pkO (L:List Ino) (O:List Os.Opn) (Z:List Es.Sea) (dn:Int):ByteArray:=if whole L O Z dn = true then Ks.Pl.packOut (fS L O Z dn) else ⟨#[]⟩
noncomputable def pkE (L:List Ino) (O:List Os.Opn) (Z:List Es.Sea) (dn:Int):Int:=if whole L O Z dn = true then Ks.Pl.packErr 1 (fS L O Z dn) else 4
/-- Reading. -/
def tk (n:Nat) (s:ByteArray):ByteArray:=s.extract 0 (min n s.size)
def dr (n:Nat) (s:ByteArray):ByteArray:=s.extract (min n s.size) s.size
def nm (n:Nat) (s:ByteArray):Int:=Ks.Pl.numVal (tk n s)
def rdH (s:ByteArray):Int × Int:=(nm 1 s,nm 6 (dr 1 s))
def rdO (s:ByteArray):Os.Opn:=(nm 1 s,nm 6 (dr 1 s),(rdH (dr 6 (dr 1 s))).1,(rdH (dr 6 (dr 1 s))).2)
def rdZ (s:ByteArray):Es.Sea:=(nm 6 s,nm 6 (dr 6 s),dr 6 (dr 6 s))
def rdR (s:ByteArray):Int × ByteArray:=(nm 4 s,dr 4 s)
def rdE (s:ByteArray):ByteArray × Int × Int × Int:=(dr 6 (dr 1 (dr 6 s)),nm 6 s,(rdH (dr 6 s)).1,(rdH (dr 6 s)).2)
def rdA (s:ByteArray):Int × Int × Int × Int:=Ks.Rs.Re.ua (tk 12 s)
def stI (x:Ino) (f:F):Ino :=
  if f.1 = 1 then { x with gen:=nm 6 f.2,kind:=(rdA (dr 6 f.2)).1,links:=(rdA (dr 6 f.2)).2.1,size:=(rdA (dr 6 f.2)).2.2.1,stamp:=(rdA (dr 6 f.2)).2.2.2,next:=nm 6 (dr 12 (dr 6 f.2)) }
  else if f.1 = 2 then { x with runs:=x.runs ++ [rdR f.2] } else if f.1 = 3 then { x with ents:=x.ents ++ [rdE f.2] } else x
def rdI (s:ByteArray):Ino:=(Ks.Pl.unpOut s.data.toList).foldl stI zeroI
structure Sta where
  L:List Ino
  O:List Os.Opn
  Z:List Es.Sea
  dn:Int
def st0:Sta:=⟨[],[],[],0⟩
def stS (x:Sta) (f:F):Sta :=
  if f.1 = 1 then { x with dn:=nm 6 f.2 } else if f.1 = 2 then { x with L:=x.L ++ [rdI f.2] } else if f.1 = 3 then { x with O:=x.O ++ [rdO f.2] } else if f.1 = 4 then { x with Z:=x.Z ++ [rdZ f.2] } else x
def rdS (s:ByteArray):Sta:=(Ks.Pl.unpOut s.data.toList).foldl stS st0
noncomputable def isS (x:Sta) (b:ByteArray):Bool:=decide (pkE x.L x.O x.Z x.dn = 0) && decide (pkO x.L x.O x.Z x.dn = b)
noncomputable def unpS (b:ByteArray):Sta:=if isS (rdS b) b = true then rdS b else st0
noncomputable def unpE (b:ByteArray):Int:=if isS (rdS b) b = true then 0 else 4
/-- What the document reads: no number, where bytes lack. -/
def pt (s:ByteArray) (a z:Nat):Int:=if s.size < a + z then 0 else Ks.Pl.numVal (s.extract a (a + z))
def rs (s:ByteArray) (a:Nat):ByteArray:=if s.size < a then ⟨#[]⟩ else s.extract a s.size
def qO (s:ByteArray):Os.Opn:=(pt s 0 1,pt s 1 6,pt s 7 1,pt s 8 6)
def qZ (s:ByteArray):Es.Sea:=(pt s 0 6,pt s 6 6,rs s 12)
def qR (s:ByteArray):Int × ByteArray:=(pt s 0 4,rs s 4)
def qE (s:ByteArray):ByteArray × Int × Int × Int:=(rs s 13,pt s 0 6,pt s 6 1,pt s 7 6)
def qA (s:ByteArray):Int × Int × Int × Int:=Ks.Rs.Re.ua (s.extract 6 18)
def qtI (x:Ino) (f:F):Ino :=
  if f.1 = 1 then (if f.2.size = 24 then { x with gen:=pt f.2 0 6,kind:=(qA f.2).1,links:=(qA f.2).2.1,size:=(qA f.2).2.2.1,stamp:=(qA f.2).2.2.2,next:=pt f.2 18 6 } else x)
  else if f.1 = 2 then { x with runs:=x.runs ++ [qR f.2] } else if f.1 = 3 then { x with ents:=x.ents ++ [qE f.2] } else x
def qI (s:ByteArray):Ino:=(Ks.Pl.unpOut s.data.toList).foldl qtI zeroI
def qtS (x:Sta) (f:F):Sta :=
  if f.1 = 1 then { x with dn:=pt f.2 0 6 } else if f.1 = 2 then { x with L:=x.L ++ [qI f.2] } else if f.1 = 3 then { x with O:=x.O ++ [qO f.2] } else if f.1 = 4 then { x with Z:=x.Z ++ [qZ f.2] } else x
def qS (s:ByteArray):Sta:=(Ks.Pl.unpOut s.data.toList).foldl qtS st0
/-- A number's bytes, and what they say. -/
theorem nb_size {n:Int} {z:Nat} (h0:0<=n) (hz:1<=z) (h7:z<=7) (h:n < 256 ^ z):(nb n z).size = z/\Ks.Pl.numVal (nb n z) = n:=by
  have h':n.toNat < 256 ^ z:=by
    have:((n.toNat:Nat):Int) < ((256 ^ z:Nat):Int):=by
      rw [Int.toNat_of_nonneg h0]
      simpa using h
    exact Int.ofNat_lt.1 this
  exact ⟨Ks.Ak.num_size h0 hz (by omega) h',Ks.Ak.val_num h0 hz h7 h'⟩
theorem cut0 (a b:ByteArray) {n:Nat} (h:a.size = n):tk n (a ++ b) = a/\dr n (a ++ b) = b:=by
  have e:min n (a ++ b).size = n:=by rw [ByteArray.size_append];omega
  refine ⟨?_,?_⟩
  · unfold tk;rw [e];exact Ks.Ak.extract_left a b n h
  · unfold dr;rw [e];exact Ks.Ak.extract_right a b n _ h (by rw [ByteArray.size_append];exact Nat.le_refl _)
theorem cutE (a:ByteArray) {n:Nat} (h:a.size = n):tk n a = a:=by
  have:=(cut0 a ⟨#[]⟩ h).1
  rwa [Ks.Rs.Pl.ba_nil'] at this
theorem tk_size (n:Nat) (s:ByteArray):(tk n s).size<=s.size:=by unfold tk;rw [ByteArray.size_extract];omega
theorem dr_size (n:Nat) (s:ByteArray):(dr n s).size<=s.size:=by unfold dr;rw [ByteArray.size_extract];omega
theorem pt_at (a b c:ByteArray) {i z:Nat} (ha:a.size = i) (hb:b.size = z):pt (a ++ b ++ c) i z = Ks.Pl.numVal b:=by
  unfold pt
  rw [if_neg (by simp only [ByteArray.size_append];omega),Ks.Rs.Pl.cut_mid a b c i (i + z) ha (by omega)]
theorem rs_at (a b:ByteArray) {i:Nat} (ha:a.size = i):rs (a ++ b) i = b:=by
  unfold rs
  rw [if_neg (by rw [ByteArray.size_append];omega)]
  exact Ks.Ak.extract_right a b i _ ha (by rw [ByteArray.size_append];exact Nat.le_refl _)
end Sh
end Go.Proofs.YtggoccfddnpelaaGreat
namespace Go.Proofs.YtggoccfddnpelaaGreat
open Go.ChangeShapes Go.WideShapes Go.ChangeAt Go.RowKit Go.Deep It
set_option maxRecDepth 100000
theorem sp_len24 {L:List Rw} (h:Sp.isSp (pl L) = true):L.length<=24:=by
  have:=(Sp.right_len (Sp.isSp_iff.1 h).1).2
  simpa using this
noncomputable def Nf.chk (L:List Ino) (O:List Os.Opn) (dn:Int):Int:=if Nf.right L O dn = true then 0 else 4
set_option maxHeartbeats 4000000 in
theorem ncheck_any {S : Nat → Prop} (vi vo : Value) (sp : Option Addr) (sn sc : Nat) (dn : Int) (L : List Rw) (O : List Os.Opn) (w : World) (hv : TabAt S w vi L) (hok : Sp.okN L) (ho : AtW Os.EO w vo O) :
    Calls Tryz.prog 41 #[VSt vi vo (.slice sp sn sc) dn] w fun e w'=>e = .returned (.int .i64 (Nf.chk (pl L) O dn))/\Below w.heap.size w w':=by
  have HV:Hid (TabAt S w vi L):=hv
  have HO:Hid (AtW Os.EO w vo O):=ho
  have HOK:Hid (Sp.okN L):=hok
  obtain ⟨W,hW⟩:∃ W,W = w.alloc (BSt vi vo (.slice sp sn sc) dn):=⟨_,rfl⟩
  have HB0:Hid (Below w.heap.size w W):=by show Below w.heap.size w W;rw [hW];exact (Below.refl _ w).alloc (Nat.le_refl _) _
  have HA0:Hid (W.heap[w.heap.size]? = some (BSt vi vo (.slice sp sn sc) dn)):=by show W.heap[w.heap.size]? = _;rw [hW];exact heap_alloc_new _ _
  obtain ⟨p,c,rfl,-,-⟩:=hv.open
  obtain ⟨q,d,rfl,-,-⟩:=ho.open
  obtain ⟨n,hn'⟩:∃ n,L.length = n:=⟨_,rfl⟩
  obtain ⟨m,hm'⟩:∃ m,O.length = m:=⟨_,rfl⟩
  rw [hn'] at HV HA0 hW ⊢
  rw [hm'] at HO HA0 hW ⊢
  obtain ⟨r1,hr1⟩:∃ r,Sp.isSp (pl L) = r:=⟨_,rfl⟩
  obtain ⟨r2,hr2⟩:∃ r,Os.Op.right 0 O = r:=⟨_,rfl⟩
  obtain ⟨r3,hr3⟩:∃ r,Nf.filesOk (pl L) O = r:=⟨_,rfl⟩
  obtain ⟨r4,hr4⟩:∃ r,allBytes (pl L) = r:=⟨_,rfl⟩
  obtain ⟨r5,hr5⟩:∃ r,Nf.doneOk (pl L) dn = r:=⟨_,rfl⟩
  have hE:Nf.chk (pl L) O dn = if (r1 && (r2 && (r3 && (decide (r4<=8192) && r5)))) = true then 0 else 4:=by
    unfold Nf.chk Nf.right
    rw [hr1,hr2,hr3,hr4,hr5]
  rw [hE]
  have HR:Hid (Sp.isSp (pl L) = r1/\Os.Op.right 0 O = r2/\Nf.filesOk (pl L) O = r3/\allBytes (pl L) = r4/\Nf.doneOk (pl L) dn = r5):=⟨hr1,hr2,hr3,hr4,hr5⟩
  obtain ⟨a0,a1,a2,a3⟩:=st_of HA0.out
  have hla:=(Array.getElem?_eq_some_iff.1 HA0.out).1
  clear hv ho hok hn' hm' hr1 hr2 hr3 hr4 hr5 hE
  go_enter Tryz.func41,Tryz.ntmps41
  go_wp2_with fail
  rw [← hW]
  clear hW a0 a1 a2 a3
  refine (scheck_any S _ L _ (HV.out.up HB0.out) HOK.out).mono ?_
  rintro e w1 ⟨rfl,hb1⟩
  have HB1:Hid (Below w.heap.size w w1):=HB0.out.trans (hb1.mono HB0.out.size)
  have HA1:Hid (w1.heap[w.heap.size]? = some (BSt (.slice p n c) (.slice q m d) (.slice sp sn sc) dn)):=(hb1.block _ hla).trans HA0.out
  clear hb1
  cases r1 with
  | false =>
    have hc:Sp.chk Sp.isSp (pl L) = 4:=by unfold Sp.chk;rw [HR.out.1];rfl
    rw [hc]
    clear hc
    go_wp2
    go_ret
    exact ⟨rfl,HB1.out⟩
  | true =>
    have hc:Sp.chk Sp.isSp (pl L) = 0:=by unfold Sp.chk;rw [HR.out.1];rfl
    have HL:Hid (L.length<=24):=sp_len24 HR.out.1
    rw [hc]
    clear hc
    obtain ⟨a0,a1,a2,a3⟩:=st_of HA1.out
    have hl1:=(Array.getElem?_eq_some_iff.1 HA1.out).1
    go_wp2_with fail
    clear a0 a1 a2 a3
    refine (Os.check_any _ O _ (HO.out.up HB1.out)).mono ?_
    rintro e w2 ⟨rfl,hb2⟩
    rw [HR.out.2.1]
    have HB2:Hid (Below w.heap.size w w2):=HB1.out.trans (hb2.mono HB1.out.size)
    have HA2:Hid (w2.heap[w.heap.size]? = some (BSt (.slice p n c) (.slice q m d) (.slice sp sn sc) dn)):=(hb2.block _ hl1).trans HA1.out
    clear hb2
    cases r2 with
    | false =>
      rw [if_neg (by decide)]
      go_wp2
      go_ret
      exact ⟨rfl,HB2.out⟩
    | true =>
      rw [if_pos rfl]
      obtain ⟨a0,a1,a2,a3⟩:=st_of HA2.out
      have hl2:=(Array.getElem?_eq_some_iff.1 HA2.out).1
      go_wp2_with fail
      clear a0 a1 a2 a3
      refine (rightFiles_any _ _ sp sn sc dn L O _ (HV.out.up HB2.out) (HO.out.up HB2.out) HL.out).mono ?_
      rintro e w3 ⟨rfl,hb3⟩
      rw [HR.out.2.2.1]
      have HB3:Hid (Below w.heap.size w w3):=HB2.out.trans (hb3.mono HB2.out.size)
      have HA3:Hid (w3.heap[w.heap.size]? = some (BSt (.slice p n c) (.slice q m d) (.slice sp sn sc) dn)):=(hb3.block _ hl2).trans HA2.out
      clear hb3
      cases r3 with
      | false =>
        go_wp2
        go_ret
        exact ⟨rfl,HB3.out⟩
      | true =>
        obtain ⟨a0,a1,a2,a3⟩:=st_of HA3.out
        have hl3:=(Array.getElem?_eq_some_iff.1 HA3.out).1
        go_wp2_with fail
        clear a0 a1 a2 a3
        refine (ibytes_any _ L _ (HV.out.up HB3.out)).mono ?_
        rintro e w4 ⟨rfl,hb4⟩
        rw [HR.out.2.2.2.1]
        have HB4:Hid (Below w.heap.size w w4):=HB3.out.trans (hb4.mono HB3.out.size)
        have HA4:Hid (w4.heap[w.heap.size]? = some (BSt (.slice p n c) (.slice q m d) (.slice sp sn sc) dn)):=(hb4.block _ hl3).trans HA3.out
        clear hb4
        by_cases h8:r4<=8192
        · have t8 : decide (r4 ≤ 8192) = true := decide_eq_true h8
          obtain ⟨a0,a1,a2,a3⟩:=st_of HA4.out
          have hl4:=(Array.getElem?_eq_some_iff.1 HA4.out).1
          go_wp2_with fail
          clear a0 a1 a2 a3
          refine (rightDone_any _ q m d sp sn sc dn L _ (HV.out.up HB4.out)).mono ?_
          rintro e w5 ⟨rfl,hb5⟩
          rw [HR.out.2.2.2.2]
          have HB5:Hid (Below w.heap.size w w5):=HB4.out.trans (hb5.mono HB4.out.size)
          clear hb5
          cases r5 with
          | false =>
            go_wp2
            all_goals (go_ret;exact ⟨by simp,HB5.out⟩)
          | true =>
            go_wp2
            all_goals (go_ret;exact ⟨by simp,HB5.out⟩)
        · have t8 : decide (r4 ≤ 8192) = false := decide_eq_false h8
          go_wp2
          all_goals (go_ret;exact ⟨by simp,HB4.out⟩)
end Go.Proofs.YtggoccfddnpelaaGreat
namespace Go.Proofs.YtggoccfddnpelaaGreat.Ks
open Go.ChangeShapes Go.WideShapes Go.ChangeAt Go.RowKit Go.Deep
set_option maxRecDepth 100000
open Ak
/-- Any world grown from w. -/
structure Grw (w:World) where
  out:World
  grown:w.grownBy out none
theorem grw_some (w:World):Nonempty (Grw w):=⟨⟨w,grown_refl _ _⟩⟩
/-- A region that only reads, and whose callees read and lay blocks of their own, walked once. -/
theorem wp_region_grw {P:Program} {id:Nat} {Q:Exit->Act->World->Prop} {a:Act} {w:World} {l:List Oper} (hm:P.follows .mixedOrders = true) (hB:Region.lexB .any l.toArray = true)
    (h:wpQuiet P l.toArray (fun w'=>∃ p:Grw w,w' = p.out) (fun a'=>∀ w',(∃ p:Grw w,w' = p.out)->Q .normal a' w') l a):(Code.region id l.toArray true).wp P Q a w :=
  wp_region_quiet (C:=fun w'=>∃ p:Grw w,w' = p.out) hm hB ⟨⟨w.drew,⟨rfl,rfl,rfl,Nat.le_refl _,fun _ _ _=>rfl⟩⟩,rfl⟩ (by simpa using h)
theorem calls_grw {P:Program} {f:FuncId} {args:Array Value} {w W:World} {v:Value} (hg:w.grownBy W none)
    (h:Calls P f args W fun e w'=>e = .returned v/\Below W.heap.size W w'):Calls P f args W fun e w''=>e = .returned v/\∃ p:Grw w,w'' = p.out :=
  h.mono fun _ w' ⟨he,hw⟩=>⟨he,⟨w',grown_trans hg (grown_of_below hw none)⟩,rfl⟩
theorem Grw.below {w:World} (p:Grw w):Below w.heap.size w p.out:=below_none p.grown (Nat.le_refl _)
theorem cell_lt {w:World} {b j:Nat} {v:Value} (h:w.cell? ⟨b,j,none⟩ = some v):b < w.heap.size:=by
  rcases Nat.lt_or_ge b w.heap.size with h' | h'
  · exact h'
  · simp [World.cell?,Array.getElem?_eq_none h'] at h
theorem cell_step {w w':World} {b j:Nat} {v:Value} (h:w.cell? ⟨b,j,none⟩ = some v) (hb:Below w.heap.size w w'):w'.cell? ⟨b,j,none⟩ = some v:=(hb.cell (p:=⟨b,j,none⟩) (cell_lt h)).trans h
theorem Grw.cell {w:World} (p:Grw w) {b j:Nat} {v:Value} (h:w.cell? ⟨b,j,none⟩ = some v):p.out.cell? ⟨b,j,none⟩ = some v:=cell_step h p.below
theorem block_lt {w:World} {b:Nat} {o:Obj} (h:w.heap[b]? = some o):b < w.heap.size:=by
  rcases Nat.lt_or_ge b w.heap.size with h' | h'
  · exact h'
  · rw [Array.getElem?_eq_none h'] at h;cases h
theorem block_step {w w':World} {b:Nat} {o:Obj} (h:w.heap[b]? = some o) (hb:Below w.heap.size w w'):w'.heap[b]? = some o:=(hb.block b (block_lt h)).trans h
abbrev VH (no gen:Int):Value:=.agg #[.int .i64 no,.int .i64 gen]
abbrev BH (no gen:Int):Obj:=.cells #[.int .i64 no,.int .i64 gen] 55
theorem two_of {w:World} {b:Nat} {x y:Int} (h:w.heap[b]? = some (BH x y)):w.cell? ⟨b,0,none⟩ = some (.int .i64 x)/\w.cell? ⟨b,1,none⟩ = some (.int .i64 y):=by
  refine ⟨?_,?_⟩ <;> simp [World.cell?,h]
end Go.Proofs.YtggoccfddnpelaaGreat.Ks
namespace Go.Proofs.YtggoccfddnpelaaGreat
open Go.ChangeShapes Go.WideShapes Go.ChangeAt Go.RowKit Go.Deep It
set_option maxRecDepth 100000
abbrev Cal:=Ks.Ak.Cl
abbrev VRp (e a b k l s t:Int) (d:ByteArray) (v:Value) (n:Int):Value:=.agg #[.int .i64 e,.int .i64 a,.int .i64 b,.int .i64 k,.int .i64 l,.int .i64 s,.int .i64 t,.string d,v,.int .i64 n]
theorem set_at {w:World} {A:Nat} {cs:Array Value} {t:TypeId} (h:w.heap[A]? = some (.cells cs t)) (k:Nat) (u:Value):(w.setCell ⟨A,k,none⟩ u).heap[A]? = some (.cells (cs.setIfInBounds k u) t):=by
  rw [setCell_eq_setRow w A k _ _ _ _ h,setRow_heap w A _ _ _ _ h]
theorem cell_at {w:World} {A:Nat} {cs:Array Value} {t:TypeId} (h:w.heap[A]? = some (.cells cs t)) (k:Nat):w.cell? ⟨A,k,none⟩ = cs[k]?:=by simp [World.cell?,h]
theorem fr_at {w:World} {A:Nat} {cs:Array Value} {t:TypeId} (h:w.heap[A]? = some (.cells cs t)) (k:Nat):w.frozen? ⟨A,k,none⟩ = false:=by simp [World.frozen?,h]
theorem setCells_below {A B:Nat} {w:World} (hA:B<=A):∀ (vs:List Value) (o:Nat) (w':World),Below B w w'->Below B w (w'.setCells A o vs)
  | [],_,_,h=>h
  | _ :: vs,o,_,h=>setCells_below hA vs (o + 1) _ (Below.setCell h hA _)
noncomputable def Nf.fndE (L:List Ino) (a b kind instead:Int):Int:=if findErr L a b = 0 then (if (findI L a b).kind = kind then 0 else instead) else findErr L a b
end Go.Proofs.YtggoccfddnpelaaGreat
