/- KBase, NTk, NFnd, NCg, NMe1, as one. -/
import Derived.Test.YtneojimodomohaaGreatV19
set_option maxHeartbeats 8000000
set_option maxRecDepth 100000
namespace Go.Proofs.YtneojimodomohaaGreat.Ks
open Go.ChangeShapes Go.WideShapes Go.ChangeAt Go.RowKit Go.Deep
open Ak
structure Grw (w:World) where
 out:World
 grown:w.grownBy out none
abbrev VC (c:Cl):Value:=.agg #[.int .i64 c.k,.int .i64 c.no,.int .i64 c.gen,.int .i64 c.no2,.int .i64 c.gen2,.string c.nm,.string c.nm2,.int .i64 c.pl,.int .i64 c.n,.string c.data]
abbrev BC (c:Cl):Obj:=.cells #[.int .i64 c.k,.int .i64 c.no,.int .i64 c.gen,.int .i64 c.no2,.int .i64 c.gen2,.string c.nm,.string c.nm2,.int .i64 c.pl,.int .i64 c.n,.string c.data] 30
abbrev VH (no gen:Int):Value:=.agg #[.int .i64 no,.int .i64 gen]
abbrev BH (no gen:Int):Obj:=.cells #[.int .i64 no,.int .i64 gen] 28
theorem ten_of {w:World} {b:Nat} {c:Cl} (h:w.heap[b]? = some (BC c)):w.cell? ⟨b,0,none⟩ = some (.int .i64 c.k)/\w.cell? ⟨b,1,none⟩ = some (.int .i64 c.no)/\w.cell? ⟨b,2,none⟩ = some (.int .i64 c.gen)/\w.cell? ⟨b,3,none⟩ = some (.int .i64 c.no2)/\w.cell? ⟨b,4,none⟩ = some (.int .i64 c.gen2)/\w.cell? ⟨b,5,none⟩ = some (.string c.nm)/\w.cell? ⟨b,6,none⟩ = some (.string c.nm2)/\w.cell? ⟨b,7,none⟩ = some (.int .i64 c.pl)/\w.cell? ⟨b,8,none⟩ = some (.int .i64 c.n)/\w.cell? ⟨b,9,none⟩ = some (.string c.data):=by
 refine ⟨?_,?_,?_,?_,?_,?_,?_,?_,?_,?_⟩ <;> simp [World.cell?,h]
theorem within_is (lo x hi:Int) (b:Bool) (w:World) (h:Hid (decide (lo<=x/\x<=hi) = b)):Calls Tryz.prog 44 #[.int .i64 lo,.int .i64 x,.int .i64 hi] w fun e w'=>e = .returned (.bool b)/\w' = w:=by
 rw [← h.out];clear h
 by_cases h1:lo<=x
 ·by_cases h2:x<=hi
  ·rw [decide_eq_true (show lo<=x/\x<=hi from ⟨h1,h2⟩)];go_enter Tryz.func44,Tryz.ntmps44;go_wp2;go_ret;exact ⟨rfl,rfl⟩
  ·rw [decide_eq_false (show ¬ (lo<=x/\x<=hi) from fun h=>h2 h.2)];go_enter Tryz.func44,Tryz.ntmps44;go_wp2;go_ret;exact ⟨rfl,rfl⟩
 ·rw [decide_eq_false (show ¬ (lo<=x/\x<=hi) from fun h=>h1 h.1)];go_enter Tryz.func44,Tryz.ntmps44;go_wp2;go_ret;exact ⟨rfl,rfl⟩
theorem rh_is (no gen:Int) (b:Bool) (w:World) (h:Hid (hok no gen = b)):Calls Tryz.prog 45 #[VH no gen] w fun e w'=>e = .returned (.bool b)/\w' = w.alloc (BH no gen):=by
 by_cases h1:0<=no/\no<=255
 ·have H1:Hid _:=decide_eq_true h1;have H2:Hid (decide (0<=gen/\gen<=1099511627776) = b):=by
   show decide (0<=gen/\gen<=1099511627776) = b;rw [← h.out];unfold hok hokP;simp [h1]
  clear h h1;go_enter Tryz.func45,Tryz.ntmps45;go_wp2_with fail;refine (within_is _ _ _ _ _ H1).mono ?_;rintro e w' ⟨rfl,rfl⟩;go_wp2_with fail;refine (within_is _ _ _ _ _ H2).mono ?_;rintro e w' ⟨rfl,rfl⟩;go_wp2;go_ret;exact ⟨rfl,rfl⟩
 ·have H1:Hid _:=decide_eq_false h1;have H2:Hid (b = false):=by show b = false;rw [← h.out];unfold hok hokP;exact decide_eq_false fun hh=>h1 hh.1
  clear h h1;go_enter Tryz.func45,Tryz.ntmps45;go_wp2_with fail;refine (within_is _ _ _ _ _ H1).mono ?_;rintro e w' ⟨rfl,rfl⟩;go_wp2;go_ret;rw [H2.out];exact ⟨rfl,rfl⟩
theorem check_is (c : Cl) (w : World) (y : Int) (h : Hid ((if right c then (0 : Int) else 413) = y)) : Calls Tryz.prog 20 #[VC c] w fun e w' => e = .returned (.int .i64 y) ∧ Bw w w' := by
 obtain ⟨k,no,gen,no2,gen2,nm,nm2,pl,n,data⟩:=c
 by_cases h0:1<=k/\k<=14
 case neg =>
  have HY:Hid (y = 413):=by
   have hr:right ⟨k,no,gen,no2,gen2,nm,nm2,pl,n,data⟩ = false:=wrong_iff.2 fun hh=>h0 hh.1
   show y = _;rw [← h.out,hr];rfl
  have H0:Hid _:=decide_eq_false h0;clear h0;clear h;go_enter Tryz.func20,Tryz.ntmps20
  go_wp2_with (first
  | (go_at_call 44;refine (within_is _ _ _ _ _ (by assumption)).mono ?_;rintro e w' ⟨rfl,rfl⟩)
  | (go_at_call 45;refine (rh_is _ _ _ _ (by assumption)).mono ?_;rintro e w' ⟨rfl,rfl⟩))
  go_ret;rw [HY.out];exact ⟨rfl,by first | exact qG _ _ | exact (qG _ _).alloc (by simp) _ | exact ((qG _ _).alloc (by simp) _).alloc (by simp;omega) _⟩
 case pos =>
  by_cases h1:hokP no gen
  case neg =>
   have HY:Hid (y = 413):=by
    have hr:right ⟨k,no,gen,no2,gen2,nm,nm2,pl,n,data⟩ = false:=wrong_iff.2 fun hh=>h1 hh.2.1
    show y = _;rw [← h.out,hr];rfl
   have H0:Hid _:=decide_eq_true h0;clear h0;have H1:Hid _:=decide_eq_false h1;clear h1;clear h;go_enter Tryz.func20,Tryz.ntmps20
   go_wp2_with (first
  | (go_at_call 44;refine (within_is _ _ _ _ _ (by assumption)).mono ?_;rintro e w' ⟨rfl,rfl⟩)
  | (go_at_call 45;refine (rh_is _ _ _ _ (by assumption)).mono ?_;rintro e w' ⟨rfl,rfl⟩))
   go_ret;rw [HY.out];exact ⟨rfl,by first | exact qG _ _ | exact (qG _ _).alloc (by simp) _ | exact ((qG _ _).alloc (by simp) _).alloc (by simp;omega) _⟩
  case pos =>
   by_cases h2:hokP no2 gen2
   case neg =>
    have HY:Hid (y = 413):=by
     have hr:right ⟨k,no,gen,no2,gen2,nm,nm2,pl,n,data⟩ = false:=wrong_iff.2 fun hh=>h2 hh.2.2.1
     show y = _;rw [← h.out,hr];rfl
    have H0:Hid _:=decide_eq_true h0;clear h0;have H1:Hid _:=decide_eq_true h1;clear h1;have H2:Hid _:=decide_eq_false h2;clear h2;clear h;go_enter Tryz.func20,Tryz.ntmps20
    go_wp2_with (first
  | (go_at_call 44;refine (within_is _ _ _ _ _ (by assumption)).mono ?_;rintro e w' ⟨rfl,rfl⟩)
  | (go_at_call 45; refine (rh_is _ _ _ _ (by assumption)).mono ?_; rintro e w' ⟨rfl, rfl⟩))
    go_ret;rw [HY.out];exact ⟨rfl,by first | exact qG _ _ | exact (qG _ _).alloc (by simp) _ | exact ((qG _ _).alloc (by simp) _).alloc (by simp;omega) _⟩
   case pos =>
    by_cases h3:nm.size<=255
    case neg =>
     have HY:Hid (y = 413):=by
      have hr:right ⟨k,no,gen,no2,gen2,nm,nm2,pl,n,data⟩ = false:=wrong_iff.2 fun hh=>h3 hh.2.2.2.1
      show y = _;rw [← h.out,hr];rfl
     have H0:Hid _:=decide_eq_true h0;clear h0;have H1:Hid _:=decide_eq_true h1;clear h1;have H2:Hid _:=decide_eq_true h2;clear h2;have e3:¬ ((nm.size:Int)<=255):=by omega
     clear h3;clear h;go_enter Tryz.func20,Tryz.ntmps20
     go_wp2_with (first
  | (go_at_call 44;refine (within_is _ _ _ _ _ (by assumption)).mono ?_;rintro e w' ⟨rfl,rfl⟩)
  | (go_at_call 45; refine (rh_is _ _ _ _ (by assumption)).mono ?_; rintro e w' ⟨rfl, rfl⟩))
     go_ret;rw [HY.out];exact ⟨rfl,by first | exact qG _ _ | exact (qG _ _).alloc (by simp) _ | exact ((qG _ _).alloc (by simp) _).alloc (by simp;omega) _⟩
    case pos =>
     by_cases h4:nm2.size<=255
     case neg =>
      have HY:Hid (y = 413):=by
       have hr:right ⟨k,no,gen,no2,gen2,nm,nm2,pl,n,data⟩ = false:=wrong_iff.2 fun hh=>h4 hh.2.2.2.2.1
       show y = _;rw [← h.out,hr];rfl
      have H0:Hid _:=decide_eq_true h0;clear h0;have H1:Hid _:=decide_eq_true h1;clear h1;have H2:Hid _:=decide_eq_true h2;clear h2;have e3:((nm.size:Int)<=255):=by omega
      clear h3;have e4:¬ ((nm2.size:Int)<=255):=by omega
      clear h4;clear h;go_enter Tryz.func20,Tryz.ntmps20
      go_wp2_with (first
  | (go_at_call 44;refine (within_is _ _ _ _ _ (by assumption)).mono ?_;rintro e w' ⟨rfl,rfl⟩)
  | (go_at_call 45; refine (rh_is _ _ _ _ (by assumption)).mono ?_; rintro e w' ⟨rfl, rfl⟩))
      go_ret;rw [HY.out];exact ⟨rfl,by first | exact qG _ _ | exact (qG _ _).alloc (by simp) _ | exact ((qG _ _).alloc (by simp) _).alloc (by simp;omega) _⟩
     case pos =>
      by_cases h5:0<=pl/\pl<=4294967295
      case neg =>
       have HY:Hid (y = 413):=by
        have hr:right ⟨k,no,gen,no2,gen2,nm,nm2,pl,n,data⟩ = false:=wrong_iff.2 fun hh=>h5 hh.2.2.2.2.2.1
        show y = _;rw [← h.out,hr];rfl
       have H0:Hid _:=decide_eq_true h0;clear h0;have H1:Hid _:=decide_eq_true h1;clear h1;have H2:Hid _:=decide_eq_true h2;clear h2;have e3:((nm.size:Int)<=255):=by omega
       clear h3;have e4:((nm2.size:Int)<=255):=by omega
       clear h4;have H5:Hid _:=decide_eq_false h5;clear h5;clear h;go_enter Tryz.func20,Tryz.ntmps20
       go_wp2_with (first
  | (go_at_call 44;refine (within_is _ _ _ _ _ (by assumption)).mono ?_;rintro e w' ⟨rfl,rfl⟩)
  | (go_at_call 45;refine (rh_is _ _ _ _ (by assumption)).mono ?_;rintro e w' ⟨rfl,rfl⟩))
       go_ret;rw [HY.out];exact ⟨rfl,by first | exact qG _ _ | exact (qG _ _).alloc (by simp) _ | exact ((qG _ _).alloc (by simp) _).alloc (by simp;omega) _⟩
      case pos =>
       by_cases h6:0<=n/\n<=65535
       case neg =>
        have HY:Hid (y = 413):=by
         have hr:right ⟨k,no,gen,no2,gen2,nm,nm2,pl,n,data⟩ = false:=wrong_iff.2 fun hh=>h6 hh.2.2.2.2.2.2.1
         show y = _;rw [← h.out,hr];rfl
        have H0:Hid _:=decide_eq_true h0;clear h0;have H1:Hid _:=decide_eq_true h1;clear h1;have H2:Hid _:=decide_eq_true h2;clear h2;have e3:((nm.size:Int)<=255):=by omega
        clear h3;have e4:((nm2.size:Int)<=255):=by omega
        clear h4;have H5:Hid _:=decide_eq_true h5;clear h5;have H6:Hid _:=decide_eq_false h6;clear h6;clear h;go_enter Tryz.func20,Tryz.ntmps20
        go_wp2_with (first
  | (go_at_call 44;refine (within_is _ _ _ _ _ (by assumption)).mono ?_;rintro e w' ⟨rfl,rfl⟩)
  | (go_at_call 45;refine (rh_is _ _ _ _ (by assumption)).mono ?_;rintro e w' ⟨rfl,rfl⟩))
        go_ret;rw [HY.out];exact ⟨rfl,by first | exact qG _ _ | exact (qG _ _).alloc (by simp) _ | exact ((qG _ _).alloc (by simp) _).alloc (by simp;omega) _⟩
       case pos =>
        by_cases h7:data.size<=1024
        case neg =>
         have HY:Hid (y = 413):=by
          have hr:right ⟨k,no,gen,no2,gen2,nm,nm2,pl,n,data⟩ = false:=wrong_iff.2 fun hh=>h7 hh.2.2.2.2.2.2.2
          show y = _;rw [← h.out,hr];rfl
         have H0:Hid _:=decide_eq_true h0;clear h0;have H1:Hid _:=decide_eq_true h1;clear h1;have H2:Hid _:=decide_eq_true h2;clear h2;have e3:((nm.size:Int)<=255):=by omega
         clear h3;have e4:((nm2.size:Int)<=255):=by omega
         clear h4;have H5:Hid _:=decide_eq_true h5;clear h5;have H6:Hid _:=decide_eq_true h6;clear h6;have e7:decide ((data.size:Int)<=1024) = false:=decide_eq_false (by omega);clear h7;clear h;go_enter Tryz.func20,Tryz.ntmps20
         go_wp2_with (first
  | (go_at_call 44;refine (within_is _ _ _ _ _ (by assumption)).mono ?_;rintro e w' ⟨rfl,rfl⟩)
  | (go_at_call 45;refine (rh_is _ _ _ _ (by assumption)).mono ?_;rintro e w' ⟨rfl,rfl⟩))
         go_ret;rw [HY.out];exact ⟨rfl,by first | exact qG _ _ | exact (qG _ _).alloc (by simp) _ | exact ((qG _ _).alloc (by simp) _).alloc (by simp;omega) _⟩
        case pos =>
         have HY:Hid (y = 0):=by
          have hr:right ⟨k,no,gen,no2,gen2,nm,nm2,pl,n,data⟩ = true:=right_iff.2 ⟨h0,h1,h2,h3,h4,h5,h6,h7⟩;show y = _;rw [← h.out,hr];rfl
         have H0:Hid _:=decide_eq_true h0;clear h0;have H1:Hid _:=decide_eq_true h1;clear h1;have H2:Hid _:=decide_eq_true h2;clear h2;have e3:((nm.size:Int)<=255):=by omega
         clear h3;have e4:((nm2.size:Int)<=255):=by omega
         clear h4;have H5:Hid _:=decide_eq_true h5;clear h5;have H6:Hid _:=decide_eq_true h6;clear h6;have e7:decide ((data.size:Int)<=1024) = true:=decide_eq_true (by omega);clear h7;clear h;go_enter Tryz.func20,Tryz.ntmps20
         go_wp2_with (first
  | (go_at_call 44;refine (within_is _ _ _ _ _ (by assumption)).mono ?_;rintro e w' ⟨rfl,rfl⟩)
  | (go_at_call 45;refine (rh_is _ _ _ _ (by assumption)).mono ?_;rintro e w' ⟨rfl,rfl⟩))
         go_ret;rw [HY.out];exact ⟨rfl,by first | exact qG _ _ | exact (qG _ _).alloc (by simp) _ | exact ((qG _ _).alloc (by simp) _).alloc (by simp;omega) _⟩
end Go.Proofs.YtneojimodomohaaGreat.Ks
namespace Go.Proofs.YtneojimodomohaaGreat
open Go.ChangeShapes Go.WideShapes Go.ChangeAt Go.RowKit Go.Deep It
abbrev Cal:=Ks.Ak.Cl
abbrev BTk (vi vo vs:Value) (dn cl:Int) (c:Cal):Obj:=.cells #[vi,vo,vs,.int .i64 dn,.int .i64 cl,.int .i64 c.k,.int .i64 c.no,.int .i64 c.gen,.int .i64 c.no2,.int .i64 c.gen2,.string c.nm,.string c.nm2,.int .i64 c.pl,.int .i64 c.n,.string c.data] 65
theorem tk_of {w:World} {A:Nat} {vi vo vs:Value} {dn cl:Int} {c:Cal} (h:w.heap[A]? = some (BTk vi vo vs dn cl c)) :
    w.cell? ⟨A,0,none⟩ = some vi/\w.cell? ⟨A,1,none⟩ = some vo/\w.cell? ⟨A,2,none⟩ = some vs/\w.cell? ⟨A,3,none⟩ = some (.int .i64 dn)/\w.cell? ⟨A,4,none⟩ = some (.int .i64 cl)/\w.cell? ⟨A,5,none⟩ = some (.int .i64 c.k)/\w.cell? ⟨A,6,none⟩ = some (.int .i64 c.no)/\w.cell? ⟨A,7,none⟩ = some (.int .i64 c.gen) /\
      w.cell? ⟨A,8,none⟩ = some (.int .i64 c.no2)/\w.cell? ⟨A,9,none⟩ = some (.int .i64 c.gen2)/\w.cell? ⟨A,10,none⟩ = some (.string c.nm)/\w.cell? ⟨A,11,none⟩ = some (.string c.nm2)/\w.cell? ⟨A,12,none⟩ = some (.int .i64 c.pl)/\w.cell? ⟨A,13,none⟩ = some (.int .i64 c.n)/\w.cell? ⟨A,14,none⟩ = some (.string c.data):=by
  refine ⟨?_,?_,?_,?_,?_,?_,?_,?_,?_,?_,?_,?_,?_,?_,?_⟩ <;> simp [World.cell?,h]
theorem tk_fr {w:World} {A:Nat} {vi vo vs:Value} {dn cl:Int} {c:Cal} (h:w.heap[A]? = some (BTk vi vo vs dn cl c)) (j:Nat):w.frozen? ⟨A,j,none⟩ = false:=by simp [World.frozen?,h]
abbrev VRp (e a b k l s t:Int) (d:ByteArray) (v:Value) (n:Int):Value:=.agg #[.int .i64 e,.int .i64 a,.int .i64 b,.int .i64 k,.int .i64 l,.int .i64 s,.int .i64 t,.string d,v,.int .i64 n]
abbrev BRp (e a b k l s t:Int) (d:ByteArray) (v:Value) (n:Int):Obj:=.cells #[.int .i64 e,.int .i64 a,.int .i64 b,.int .i64 k,.int .i64 l,.int .i64 s,.int .i64 t,.string d,v,.int .i64 n] 40
abbrev VBad (e:Int):Value:=VRp e 0 0 0 0 0 0 ⟨#[]⟩ (.slice none 0 0) 0
theorem wrong_any (e0:Int) (w:World):Calls Tryz.prog 22 #[.int .i64 e0] w fun e w'=>e = .returned (VBad e0)/\Bw w w':=by
  go_enter Tryz.func22,Tryz.ntmps22;go_wp2
  (try simp only [Exit.inBlock,Exit.then])
  refine bodyPost_ret (v:=VBad e0) ?_ rfl ⟨rfl,?_⟩
  · rw [results_cell1 rfl]
    go_simp
  · have h := (Below.refl w.heap.size w)
    repeat (first | exact h | refine Below.alloc ?_ (Nat.le_refl _) _ | refine Below.setCell ?_ (by simp) _)
theorem attrOf_any {S:Nat->Prop} (vi vo vs:Value) (dn cl:Int) (c:Cal) (L:List Rw) (B:Nat) (no gen:Int) (w:World) (hB:w.heap[B]? = some (BTk vi vo vs dn cl c)) (hv:TabAt S w vi L) {k:Nat} {y:Rw} (hk:L[k]? = some y) (hno:no = k) :
    Calls Tryz.prog 93 #[.pointer (some ⟨B,0,none⟩),.agg #[.int .i64 no,.int .i64 gen]] w fun e w'=>e = .returned (VA y.i.kind y.i.links y.i.size y.i.stamp)/\Bw w w':=by
  subst hno;have hBl:=(Array.getElem?_eq_some_iff.1 hB).1;obtain ⟨t0,-,-,-,-,-,-,-,-,-,-,-,-,-,-⟩:=tk_of hB;obtain ⟨ao,cap,rfl,hm,hxx⟩:=hv.open;obtain ⟨⟨b,off,rfl,hBb,c0,c1,c2,c3,c4,c5,c6,c7⟩,-⟩:=hxx k y hk;have hkl:(k:Int) < (L.length:Int):=by have:=(List.getElem?_eq_some_iff.1 hk).1;omega
  obtain ⟨n,hn'⟩:=qE L.length;rw [hn'] at hkl t0;clear hv hxx hB hm hn' c0 c5 c6 c7;go_enter Tryz.func93,Tryz.ntmps93;go_wp2_with fail
  go_region
  all_goals
    go_wp2
    (try simp only [Exit.inBlock,Exit.then])
    refine bodyPost_ret (v:=VA y.i.kind y.i.links y.i.size y.i.stamp) ?_ rfl ⟨rfl,?_⟩
    · rw [results_cell1 rfl]
      go_simp
    · have h := (Below.refl w.heap.size w)
      repeat (first | exact h | refine bel_drew ?_ | refine Below.alloc ?_ (by simp) _ | refine Below.setCell ?_ (by simp) _)
structure Shut (K:Prop):Prop where
 out:K
theorem cut_in {G K:Prop} (k:Shut K->G) (c:K):G:=k ⟨c⟩
theorem set_at {w:World} {A:Nat} {cs:Array Value} {t:TypeId} (h:w.heap[A]? = some (.cells cs t)) (k:Nat) (u:Value):(w.setCell ⟨A,k,none⟩ u).heap[A]? = some (.cells (cs.setIfInBounds k u) t):=by
 rw [setCell_eq_setRow w A k _ _ _ _ h,setRow_heap w A _ _ _ _ h]
theorem cell_at {w:World} {A:Nat} {cs:Array Value} {t:TypeId} (h:w.heap[A]? = some (.cells cs t)) (k:Nat):w.cell? ⟨A,k,none⟩ = cs[k]?:=by simp [World.cell?,h]
theorem fr_at {w:World} {A:Nat} {cs:Array Value} {t:TypeId} (h:w.heap[A]? = some (.cells cs t)) (k:Nat):w.frozen? ⟨A,k,none⟩ = false:=by simp [World.frozen?,h]
theorem setCells_at {A:Nat} {t:TypeId} {w:World} {cur:Array Value} (vs:List Value) (h:w.heap[A]? = some (.cells cur t (0,0))) (hl:vs.length = cur.size):(w.setCells A 0 vs).heap[A]? = some (.cells vs.toArray t (0,0)):=by
 have h1:=setCells_row vs 0 cur w h (by omega);rw [h1];simp [hl]
theorem setCells_below {A B:Nat} {w:World} (hA:B<=A):∀ (vs:List Value) (o:Nat) (w':World),Below B w w'->Below B w (w'.setCells A o vs)
 | [],_,_,h=>h
 | _ :: vs,o,_,h=>setCells_below hA vs (o + 1) _ (Below.setCell h hA _)
theorem setCells_good {S:Nat->Prop} {A:Nat} {y:Rw} (hA:¬ S A):∀ (vs:List Value) (o:Nat) (w:World),Good S w y->Good S (w.setCells A o vs) y
 | [],_,_,h=>h
 | _ :: vs,o,_,h=>setCells_good hA vs (o + 1) _ (h.setCell hA _)
abbrev cI (x:Rw):List Value:=[.int .i64 x.i.gen,.int .i64 x.i.kind,.int .i64 x.i.links,.int .i64 x.i.size,.int .i64 x.i.stamp,.slice x.rp x.rn x.rc,.slice x.ep x.en x.ec,.int .i64 x.i.next]
noncomputable def Nf.fndE (L:List Ino) (a b kind instead:Int):Int:=if findErr L a b = 0 then (if (findI L a b).kind = kind then 0 else instead) else findErr L a b
theorem nfind_any {S : Nat → Prop} (vi vo vs : Value) (dn cl : Int) (c : Cal) (L : List Rw) (B : Nat) (kind instead : Int) (w : World) (hB : w.heap[B]? = some (BTk vi vo vs dn cl c)) (hv : TabAt S w vi L) (hi : instead ≠ 0) :
    Calls Tryz.prog 109 #[.pointer (some ⟨B,0,none⟩),.int .i64 kind,.int .i64 instead] w fun e w'=>∃ x:Rw,e = .returned (.tuple #[VI x,.int .i64 (Nf.fndE (pl L) c.no c.gen kind instead)])/\x.i = (if Nf.fndE (pl L) c.no c.gen kind instead = 0 then findI (pl L) c.no c.gen else zeroI)/\Good (fun b=>w.heap.size < b) w' x/\Bw w w':=by
  have hBl:=(Array.getElem?_eq_some_iff.1 hB).1;obtain ⟨W,hW⟩:=qF (w.alloc (BZ));have HB0:Hid _:=qB hW;have HA0:Hid _:=qC hW;have HT0:Hid (W.heap[B]? = some (BTk vi vo vs dn cl c)):=(HB0.out.block _ hBl).trans hB;have HV:Hid (TabAt S W vi L):=hv.up HB0.out;have hwW:w.heap.size < W.heap.size:=(Array.getElem?_eq_some_iff.1 HA0.out).1;obtain ⟨t0,-,-,-,-,-,t6,t7,-,-,-,-,-,-,-⟩:=tk_of HT0.out;obtain ⟨ao,cap,rfl,-,-⟩:=hv.open;obtain ⟨n,hn'⟩:=qE L.length;rw [hn'] at t0 HV HT0;obtain ⟨a,ha⟩:=qE c.no;obtain ⟨b,hb⟩:=qE c.gen;rw [ha] at t6;rw [hb] at t7;rw [ha,hb];obtain ⟨fe,hfe⟩:=qE (findErr (pl L) a b);obtain ⟨E,hE⟩:=qE (Nf.fndE (pl L) a b kind instead);rw [hE];unfold Nf.fndE at hE;rw [hfe] at hE;have HC:Hid (∀ V,Bw W V->Calls Tryz.prog 94 #[.slice ao n cap,.agg #[.int .i64 a,.int .i64 b]] V fun e w'=>∃ x:Rw,e = .returned (.tuple #[VI x,.int .i64 fe])/\x.i = findI (pl L) a b/\Good (fun b=>V.heap.size<=b) w' x/\Bw V w'):=fun V h=>by
    rw [← hfe];exact findOwn_any _ L a b V (HV.out.up h)
  have HB01:Hid (Bw W (W.alloc (BZ))):=qG _ _;have HB02:Hid (Bw W (W.drew.alloc (BZ))):=(bel_drew (Below.refl _ _)).alloc (Nat.le_refl _) _;have HSG:Hid (∀ V:World,Bw W V->V.cell? ⟨B,0,none⟩ = some (.slice ao n cap)/\V.cell? ⟨B,6,none⟩ = some (.int .i64 a)/\V.cell? ⟨B,7,none⟩ = some (.int .i64 b)):=fun V h=>⟨cell_step t0 h,cell_step t6 h,cell_step t7 h⟩
  clear hv hB hn' ha hb t0 t6 t7;go_enter Tryz.func109,Tryz.ntmps109;go_wp2_with fail;rw [← hW];clear hW;apply cut_in
  · intro hK
    go_region_held3 (fun V=>V.cell? ⟨B,0,none⟩ = some (.slice ao n cap)/\V.cell? ⟨B,6,none⟩ = some (.int .i64 a)/\V.cell? ⟨B,7,none⟩ = some (.int .i64 b)) (first | exact HSG.out _ (by (repeat (first | with_reducible assumption | with_reducible exact Below.refl _ _ | with_reducible refine bel_drew ?_ | with_reducible refine Below.setCell ?_ (by first | exact Nat.le_refl _ | assumption) _ | with_reducible refine Below.alloc ?_ (by first | exact Nat.le_refl _ | assumption) _)))) (first
      | (go_at_call 94; refine (HC.out _ (by first | exact Below.refl _ _ | exact bel_drew (Below.refl _ _) | exact HB01.out | exact HB02.out | exact bel_drew HB01.out)).mono ?_; rintro e w5 ⟨x, rfl, hxi, hxg, hb5⟩; have HXI : Hid (x.i = findI (pl L) a b) := hxi; clear hxi; have hb55 : Bw W w5 := (by first | exact hb5 | exact undrew hb5 | exact HB02.out.trans (hb5.mono HB02.out.size) | exact HB01.out.trans ((undrew hb5).mono HB01.out.size) | exact HB01.out.trans (hb5.mono HB01.out.size)); have h5s : W.heap.size ≤ w5.heap.size := hb55.size; (first
        | (have hz5:w5.heap[W.heap.size]? = some (BZ):=(by first | exact (hb5.block _ (by simp)).trans (heap_alloc_new W.drew _) | exact (hb5.block _ (by show _ < Array.size _;simp)).trans (heap_alloc_new W _));have f0:=cell_at hz5 0;have f1:=cell_at hz5 1;have f2:=cell_at hz5 2;have f3:=cell_at hz5 3;have f4:=cell_at hz5 4;have f5:=cell_at hz5 5;have f6:=cell_at hz5 6;have f7:=cell_at hz5 7;have ff:=fr_at hz5;have HZ5:Hid (w5.heap[W.heap.size]? = some (BZ)):=hz5;have HG5:Hid (Good (fun b=>W.heap.size < b) w5 x):=hxg.imp (fun b hb _=>by simp at hb;omega);clear hz5)
        | (have HG5:Hid (Good (fun b=>w.heap.size < b) w5 x):=hxg.imp (fun b hb _=>by first | (simp at hb;omega) | omega)));clear hb5 hxg))
    all_goals first
      | (obtain ⟨Y, hY⟩ : ∃ Y, Y = w5.alloc (BIx x) := ⟨_, rfl⟩
         rw [← hY];have hYB:Bw W Y:=by rw [hY];exact hb55.alloc hb55.size _
         have hYG:Good (fun b=>w.heap.size < b) Y x:=by rw [hY];exact HG5.out.up (qG _ _)
         obtain ⟨A,hA⟩:=qF w5.heap.size;have hYX:Y.heap[A]? = some (BIx x):=by rw [hY,hA];exact heap_alloc_new _ _
         have hAw:W.heap.size<=A:=by rw [hA];exact h5s
         rw [← hA];clear hA hY)
      | (obtain ⟨Y, hY⟩ : ∃ Y, Y = ((((((((w5.setCell ⟨W.heap.size, 0, none⟩ (.int .i64 x.i.gen)).setCell ⟨W.heap.size, 1, none⟩ (.int .i64 x.i.kind)).setCell ⟨W.heap.size, 2, none⟩ (.int .i64 x.i.links)).setCell ⟨W.heap.size, 3, none⟩ (.int .i64 x.i.size)).setCell ⟨W.heap.size, 4, none⟩ (.int .i64 x.i.stamp)).setCell ⟨W.heap.size, 5, none⟩ (.slice x.rp x.rn x.rc)).setCell ⟨W.heap.size, 6, none⟩ (.slice x.ep x.en x.ec)).setCell ⟨W.heap.size, 7, none⟩ (.int .i64 x.i.next)) := ⟨_, rfl⟩
         rw [← hY];have hYe:Y = w5.setCells W.heap.size 0 (cI x):=hY;have hYB:Bw W Y:=by rw [hYe];exact setCells_below (Nat.le_refl _) _ _ _ hb55
         have hYG:Good (fun b=>w.heap.size < b) Y x:=by rw [hYe];exact (setCells_good (fun h=>Nat.lt_irrefl _ h) _ _ _ HG5.out).imp (fun _ h _=>Nat.lt_trans hwW h)
         obtain ⟨A,hA⟩:=qF W.heap.size;have hYX:Y.heap[A]? = some (BIx x):=by rw [hYe,hA];exact setCells_at (cI x) HZ5.out rfl
         have hAw:W.heap.size<=A:=by rw [hA];exact Nat.le_refl _
         rw [← hA];clear hA hY hYe f0 f1 f2 f3 f4 f5 f6 f7 ff HZ5)
    all_goals
      obtain ⟨z,hz⟩:=qF x;rw [← hz];have HR:Hid (Bw W Y/\Y.heap[A]? = some (BIx z)/\W.heap.size<=A/\Good (fun b=>w.heap.size < b) Y z/\z.i = findI (pl L) a b):=by rw [hz];exact ⟨hYB,hYX,hAw,hYG,HXI.out⟩
      clear hYB hYX hYG hAw HG5 HXI hz;revert HR;revert A Y z;exact hK.out
  intro Y A x HR;clear HSG HB01 HB02 HC;have HBY:Hid (Bw w Y):=HB0.out.trans (HR.out.1.mono HB0.out.size);have HZ:Hid (Y.heap[w.heap.size]? = some BZ):=(HR.out.1.block _ hwW).trans HA0.out;have hzl:=(Array.getElem?_eq_some_iff.1 HZ.out).1;have hAl:=(Array.getElem?_eq_some_iff.1 HR.out.2.1).1;have hAne:w.heap.size≠A:=by have:=HR.out.2.2.1;omega
  have g0:=cell_at HZ.out 0;have g1:=cell_at HZ.out 1;have g2:=cell_at HZ.out 2;have g3:=cell_at HZ.out 3;have g4:=cell_at HZ.out 4;have g5:=cell_at HZ.out 5;have g6:=cell_at HZ.out 6;have g7:=cell_at HZ.out 7;have gg:=fr_at HZ.out;obtain ⟨X,hX⟩:=qF x;have HXX:Hid (X.i = X.i/\X.i = findI (pl L) a b):=by rw [hX];exact ⟨rfl,HR.out.2.2.2.2⟩
  have HXG:Hid (Good (fun b=>w.heap.size < b) Y X):=by rw [hX];exact HR.out.2.2.2.1
  have k0:=cell_at HR.out.2.1 0;have k1:=cell_at HR.out.2.1 1;have k2:=cell_at HR.out.2.1 2;have k3:=cell_at HR.out.2.1 3;have k4:=cell_at HR.out.2.1 4;have k5:=cell_at HR.out.2.1 5;have k6:=cell_at HR.out.2.1 6;have k7:=cell_at HR.out.2.1 7;simp at g0 g1 g2 g3 g4 g5 g6 g7 k0 k1 k2 k3 k4 k5 k6 k7;clear HR HA0 HT0 HV HZ
  by_cases hf0:fe = 0
  · rw [if_pos hf0] at hE
    subst hf0
    by_cases hk:(findI (pl L) a b).kind = kind
    · rw [if_pos hk] at hE
      subst hE;have hkx:(x.i.kind != kind) = false:=by rw [← hX,HXX.out.2,hk];simp
      have HF:Hid (x.i = findI (pl L) a b):=by rw [← hX];exact HXX.out.2
      have HG:Hid (Good (fun b=>w.heap.size < b) Y x):=by rw [← hX];exact HXG.out
      clear HXX hX hfe hk HXG;go_wp2
      (try simp only [Exit.inBlock,Exit.then])
      refine bodyPost_ret (v:=.tuple #[VI x,.int .i64 0]) ?_ rfl ⟨x,rfl,HF.out,?_,?_⟩
      · rw [results_cell_tmp rfl]
        go_simp
      · exact (setCells_good (A:=w.heap.size) (S:=fun b=>w.heap.size < b) (by simp) (cI x) 0 Y HG.out)
      · repeat (with_reducible refine Below.setCell ?_ (by simp) _)
        exact HBY.out
    · rw [if_neg hk] at hE
      subst hE;have hkx:(x.i.kind != kind) = true:=by rw [← hX,HXX.out.2];simpa using hk
      clear HXX hX hfe hk;go_wp2
      (try simp only [Exit.inBlock,Exit.then])
      refine bodyPost_ret (v:=.tuple #[.agg #[.int .i64 0,.int .i64 0,.int .i64 0,.int .i64 0,.int .i64 0,.slice none 0 0,.slice none 0 0,.int .i64 0],.int .i64 instead]) ?_ rfl ⟨zeroR,rfl,rfl,good_zero _ _,?_⟩
      · rw [results_cell_tmp rfl]
        go_simp
      · repeat (with_reducible refine Below.setCell ?_ (by simp) _)
        exact HBY.out
  · rw [if_neg hf0] at hE
    subst hE;have hz:(fe != 0) = true:=by simpa using hf0
    clear HXX hX hfe;go_wp2
    (try simp only [Exit.inBlock,Exit.then])
    refine bodyPost_ret (v:=.tuple #[.agg #[.int .i64 0,.int .i64 0,.int .i64 0,.int .i64 0,.int .i64 0,.slice none 0 0,.slice none 0 0,.int .i64 0],.int .i64 fe]) ?_ rfl ⟨zeroR,rfl,rfl,good_zero _ _,?_⟩
    · rw [results_cell_tmp rfl]
      go_simp
    · repeat (with_reducible refine Below.setCell ?_ (by simp) _)
      exact HBY.out
theorem nfile_any {S:Nat->Prop} (vi vo vs:Value) (dn cl:Int) (c:Cal) (L:List Rw) (B:Nat) (w:World) (hB:w.heap[B]? = some (BTk vi vo vs dn cl c)) (hv:TabAt S w vi L) :
  Calls Tryz.prog 96 #[.pointer (some ⟨B,0,none⟩)] w fun e w'=>∃ x:Rw,e = .returned (.tuple #[VI x,.int .i64 (Nf.fndE (pl L) c.no c.gen 1 405)])/\x.i = (if Nf.fndE (pl L) c.no c.gen 1 405 = 0 then findI (pl L) c.no c.gen else zeroI)/\Good (fun b=>w.heap.size < b) w' x/\Bw w w':=by
 have hBl:=(qL hB);obtain ⟨W,hW⟩:=qF (w.alloc BZ);have HB0:Hid _:=qB hW;have HA0:Hid _:=qC hW;have HT0:Hid _:=(HB0.out.block _ hBl).trans hB;have HV:Hid _:=hv.up HB0.out;have hwW:w.heap.size < W.heap.size:=(qL HA0.out);obtain ⟨E,hE⟩:=qE (Nf.fndE (pl L) c.no c.gen 1 405);have HE:Hid _:=hE;rw [hE];obtain ⟨T,hT⟩:=qE (if E = 0 then findI (pl L) c.no c.gen else zeroI);have HT:Hid _:=hT;rw [hT];clear hv hB hE hT;go_enter Tryz.func96,Tryz.ntmps96;go_wp2_with fail;rw [← hW];clear hW;refine (nfind_any vi vo vs dn cl c L B 1 405 W HT0.out HV.out (by decide)).mono ?_;rintro e w1 ⟨x,rfl,hxi,hxg,hb1⟩;rw [HE.out] at hxi ⊢;rw [HT.out] at hxi;have HX:Hid _:=hxi;have HG:Hid _:=hxg.imp (fun _ h _=>Nat.lt_trans hwW h);have HB1:=qJ HB0 hb1;have HZ:Hid _:=(hb1.block _ hwW).trans HA0.out;have g0:=cell_at HZ.out 0;have g1:=cell_at HZ.out 1;have g2:=cell_at HZ.out 2;have g3:=cell_at HZ.out 3;have g4:=cell_at HZ.out 4;have g5:=cell_at HZ.out 5;have g6:=cell_at HZ.out 6;have g7:=cell_at HZ.out 7;have gg:=fr_at HZ.out;simp at g0 g1 g2 g3 g4 g5 g6 g7;clear hxi hxg hb1 HA0 HT0 HV;go_wp2
 (try simp only [Exit.inBlock,Exit.then])
 refine bodyPost_ret (v:=.tuple #[VI x,.int .i64 E]) ?_ rfl ⟨x,rfl,HX.out,?_,?_⟩
 ·rw [results_cell_tmp rfl]
  go_simp
 ·exact (setCells_good (A:=w.heap.size) (S:=fun b=>w.heap.size < b) (by simp) (cI x) 0 w1 HG.out)
 ·repeat (with_reducible refine Below.setCell ?_ (by simp) _)
  exact HB1.out
theorem gr_set {row:Option Nat} {w w':World} (h:w.grownBy w' row) {p:Addr} (hp:w.heap.size<=p.block∨some p.block = row) (u:Value):w.grownBy (w'.setCell p u) row :=
  ⟨h.os,h.tape,h.output,by simpa [World.setCell] using h.size,fun k hk hne=>(Below.heap_setCell _ _ _ _ (fun e=>by
    rcases hp with hp | hp
    · omega
    · exact hne (by rw [e];exact hp))).trans (h.block k hk hne)⟩
theorem gr_alloc {row:Option Nat} {w w':World} (h:w.grownBy w' row) (o:Obj):w.grownBy (w'.alloc o) row:=grown_trans h (World.grownBy_alloc _ _ _)
theorem gr_up {row:Option Nat} {w w' w2:World} (h:w.grownBy w' row) (hb:Bw w' w2):w.grownBy w2 row:=grown_trans h (grown_of_below hb row)
theorem rp_of {w:World} {A:Nat} {e a b k l s t:Int} {d:ByteArray} {v:Value} {n:Int} (h:w.heap[A]? = some (BRp e a b k l s t d v n)) :
    w.cell? ⟨A,0,none⟩ = some (.int .i64 e)/\w.cell? ⟨A,1,none⟩ = some (.int .i64 a)/\w.cell? ⟨A,2,none⟩ = some (.int .i64 b)/\w.cell? ⟨A,3,none⟩ = some (.int .i64 k)/\w.cell? ⟨A,4,none⟩ = some (.int .i64 l)/\w.cell? ⟨A,5,none⟩ = some (.int .i64 s)/\w.cell? ⟨A,6,none⟩ = some (.int .i64 t)/\w.cell? ⟨A,7,none⟩ = some (.string d)/\w.cell? ⟨A,8,none⟩ = some v/\w.cell? ⟨A,9,none⟩ = some (.int .i64 n):=by
  refine ⟨?_,?_,?_,?_,?_,?_,?_,?_,?_,?_⟩ <;> simp [World.cell?,h]
abbrev BR0:Obj:=BRp 0 0 0 0 0 0 0 ⟨#[]⟩ (.slice none 0 0) 0
theorem change_any (vi vo vs:Value) (dn cl:Int) (c:Cal) (B:Nat) (p:Option Addr) (n q:Nat) (e0:Int) (w:World) (hB:w.heap[B]? = some (BTk vi vo vs dn cl c)) :
    Calls Tryz.prog 103 #[.pointer (some ⟨B,0,none⟩),.slice p n q,.int .i64 e0] w fun e w'=>e = .returned (VBad e0)/\w'.heap[B]? = some (BTk (if e0 = 0 then .slice p n q else vi) vo vs dn cl c)/\w.grownBy w' (some B):=by
  have hBl:=(Array.getElem?_eq_some_iff.1 hB).1;have HB:Hid (w.heap[B]? = some (BTk vi vo vs dn cl c)):=hB
  by_cases h0:e0 = 0
  · subst h0
    rw [if_pos rfl];obtain ⟨t0,-,-,-,-,-,-,-,-,-,-,-,-,-,-⟩:=tk_of hB;have tf:=tk_fr hB 0;have hne:B≠w.heap.size:=by omega
    clear hB;go_enter Tryz.func103,Tryz.ntmps103;go_wp2
    (try simp only [Exit.inBlock,Exit.then])
    refine bodyPost_ret (v:=VBad 0) ?_ rfl ⟨rfl,?_,?_⟩
    · rw [results_cell1 rfl]
      go_simp
    · exact (Below.heap_alloc _ _ _ (by simpa [World.setCell] using hBl)).trans (set_at HB.out 0 (.slice p n q))
    · exact gr_alloc (gr_set (grown_refl _ _) (.inr rfl) _) _
  · rw [if_neg h0]
    have hz:(e0 != 0) = true:=by simpa using h0
    obtain ⟨W,hW⟩:=qF (w.alloc BR0);have HB0:Hid _:=qB hW;have HA0:Hid _:=qC hW;have hla:=(Array.getElem?_eq_some_iff.1 HA0.out).1;clear hB h0;go_enter Tryz.func103,Tryz.ntmps103;go_wp2_with fail;rw [← hW];clear hW;refine (wrong_any e0 W).mono ?_;rintro e w1 ⟨rfl,hb1⟩;have HB1:Hid (Bw w w1):=HB0.out.trans (hb1.mono HB0.out.size);have HZ:=qK hb1 HA0;have g0:=cell_at HZ.out 0;have g1:=cell_at HZ.out 1;have g2:=cell_at HZ.out 2;have g3:=cell_at HZ.out 3;have g4:=cell_at HZ.out 4;have g5:=cell_at HZ.out 5;have g6:=cell_at HZ.out 6;have g7:=cell_at HZ.out 7;have g8:=cell_at HZ.out 8;have g9:=cell_at HZ.out 9;have gg:=fr_at HZ.out;simp at g0 g1 g2 g3 g4 g5 g6 g7 g8 g9;clear hb1;go_wp2
    (try simp only [Exit.inBlock,Exit.then])
    refine bodyPost_ret (v:=VBad e0) ?_ rfl ⟨rfl,?_,?_⟩
    · rw [results_cell1 rfl]
      go_simp
    · have h1 : w1.heap[B]? = some (BTk vi vo vs dn cl c) := (HB1.out.block _ hBl).trans HB.out
      repeat (first | (with_reducible exact h1) | refine (Below.heap_setCell _ _ _ _ (by show B≠w.heap.size;omega)).trans ?_)
    · repeat (with_reducible refine gr_set ?_ (.inl (by simp)) _)
      exact grown_of_below HB1.out _
theorem nattr_any {S : Nat → Prop} (vi vo vs : Value) (dn cl : Int) (c : Cal) (L : List Rw) (B : Nat) (w : World) (hB : w.heap[B]? = some (BTk vi vo vs dn cl c)) (hv : TabAt S w vi L) :
    Calls Tryz.prog 48 #[.pointer (some ⟨B,0,none⟩)] w fun e w'=>e = .returned (VRp (findErr (pl L) c.no c.gen) 0 0 (findI (pl L) c.no c.gen).kind (findI (pl L) c.no c.gen).links (findI (pl L) c.no c.gen).size (findI (pl L) c.no c.gen).stamp ⟨#[]⟩ (.slice none 0 0) 0)/\Bw w w':=by
  have hBl:=(Array.getElem?_eq_some_iff.1 hB).1;have HB:Hid (w.heap[B]? = some (BTk vi vo vs dn cl c)):=hB;obtain ⟨W,hW⟩:=qF (w.alloc BR0);have HB0:Hid _:=qB hW;have HA0:Hid _:=qC hW;have HT0:Hid (W.heap[B]? = some (BTk vi vo vs dn cl c)):=(HB0.out.block _ hBl).trans hB;have HV:Hid (TabAt S W vi L):=hv.up HB0.out;have hwW:w.heap.size < W.heap.size:=(Array.getElem?_eq_some_iff.1 HA0.out).1;have hBW:B < W.heap.size:=(Array.getElem?_eq_some_iff.1 HT0.out).1;have hBne:B≠w.heap.size:=by omega
  obtain ⟨t0,-,-,-,-,-,t6,t7,-,-,-,-,-,-,-⟩:=tk_of HT0.out;obtain ⟨ao,cap,rfl,-,-⟩:=hv.open;obtain ⟨n,hn'⟩:=qE L.length;rw [hn'] at t0 HV HT0 HB;have HSG:Hid (∀ V:World,Bw W V->V.cell? ⟨B,0,none⟩ = some (.slice ao n cap)/\V.cell? ⟨B,6,none⟩ = some (.int .i64 c.no)/\V.cell? ⟨B,7,none⟩ = some (.int .i64 c.gen)):=fun V h=>⟨cell_step t0 h,cell_step t6 h,cell_step t7 h⟩
  clear hv hB hn' t0 t6 t7;obtain ⟨fe,hfe⟩:=qE (findErr (pl L) c.no c.gen);obtain ⟨fi,hfi⟩:=qE (findI (pl L) c.no c.gen);rw [hfe,hfi];have HC:Hid (∀ V,Bw W V->Calls Tryz.prog 94 #[.slice ao n cap,.agg #[.int .i64 c.no,.int .i64 c.gen]] V fun e w'=>∃ x:Rw,e = .returned (.tuple #[VI x,.int .i64 fe])/\x.i = fi/\Bw V w'):=fun V h=>by
    rw [← hfe,← hfi];refine (find_any _ L c.no c.gen V (HV.out.up h)).mono ?_;rintro e w' ⟨x,h1,h2,-,h4⟩;exact ⟨x,h1,h2,h4⟩
  clear hfe hfi;go_enter Tryz.func48,Tryz.ntmps48;go_wp2_with fail;rw [← hW];clear hW;have HB01:Hid (Bw W (W.alloc (BZ))):=qG _ _;have HB02:Hid (Bw W (W.drew.alloc (BZ))):=(bel_drew (Below.refl _ _)).alloc (Nat.le_refl _) _;apply cut_in
  · intro hK
    go_region_held3 (fun V=>V.cell? ⟨B,0,none⟩ = some (.slice ao n cap)/\V.cell? ⟨B,6,none⟩ = some (.int .i64 c.no)/\V.cell? ⟨B,7,none⟩ = some (.int .i64 c.gen)) (first | exact HSG.out _ (by (repeat (first | with_reducible assumption | with_reducible exact Below.refl _ _ | with_reducible refine bel_drew ?_ | with_reducible refine Below.setCell ?_ (by first | exact Nat.le_refl _ | assumption) _ | with_reducible refine Below.alloc ?_ (by first | exact Nat.le_refl _ | assumption) _)))) (first
      | (go_at_call 94; refine (HC.out _ (by first | exact Below.refl _ _ | exact bel_drew (Below.refl _ _) | exact HB01.out | exact HB02.out | exact bel_drew HB01.out)).mono ?_; rintro e w5 ⟨x, rfl, hxi, hb5⟩; have HXI : Hid (x.i = fi) := hxi; clear hxi; have hb55 : Bw W w5 := (by first | exact hb5 | exact undrew hb5 | exact HB02.out.trans (hb5.mono HB02.out.size) | exact HB01.out.trans ((undrew hb5).mono HB01.out.size) | exact HB01.out.trans (hb5.mono HB01.out.size)); have h5s : W.heap.size ≤ w5.heap.size := hb55.size; (first
        | (have hz5:w5.heap[W.heap.size]? = some (BZ):=(by first | exact (hb5.block _ (by simp)).trans (heap_alloc_new W.drew _) | exact (hb5.block _ (by show _ < Array.size _;simp)).trans (heap_alloc_new W _));have f0:=cell_at hz5 0;have f1:=cell_at hz5 1;have f2:=cell_at hz5 2;have f3:=cell_at hz5 3;have f4:=cell_at hz5 4;have f5:=cell_at hz5 5;have f6:=cell_at hz5 6;have f7:=cell_at hz5 7;have ff:=fr_at hz5;have HZ5:Hid (w5.heap[W.heap.size]? = some (BZ)):=hz5; clear hz5)
        | (skip));clear hb5))
    all_goals first
      | (obtain ⟨Y, hY⟩ : ∃ Y, Y = w5.alloc (BIx x) := ⟨_, rfl⟩
         rw [← hY];have hYB:Bw W Y:=by rw [hY];exact hb55.alloc hb55.size _
         obtain ⟨A,hA⟩:=qF w5.heap.size;have hYX:Y.heap[A]? = some (BIx x):=by rw [hY,hA];exact heap_alloc_new _ _
         have hAw:W.heap.size<=A:=by rw [hA];exact h5s
         rw [← hA];clear hA hY)
      | (obtain ⟨Y, hY⟩ : ∃ Y, Y = ((((((((w5.setCell ⟨W.heap.size, 0, none⟩ (.int .i64 x.i.gen)).setCell ⟨W.heap.size, 1, none⟩ (.int .i64 x.i.kind)).setCell ⟨W.heap.size, 2, none⟩ (.int .i64 x.i.links)).setCell ⟨W.heap.size, 3, none⟩ (.int .i64 x.i.size)).setCell ⟨W.heap.size, 4, none⟩ (.int .i64 x.i.stamp)).setCell ⟨W.heap.size, 5, none⟩ (.slice x.rp x.rn x.rc)).setCell ⟨W.heap.size, 6, none⟩ (.slice x.ep x.en x.ec)).setCell ⟨W.heap.size, 7, none⟩ (.int .i64 x.i.next)) := ⟨_, rfl⟩
         rw [← hY];have hYe:Y = w5.setCells W.heap.size 0 (cI x):=hY;have hYB:Bw W Y:=by rw [hYe];exact setCells_below (Nat.le_refl _) _ _ _ hb55
         obtain ⟨A,hA⟩:=qF W.heap.size;have hYX:Y.heap[A]? = some (BIx x):=by rw [hYe,hA];exact setCells_at (cI x) HZ5.out rfl
         have hAw:W.heap.size<=A:=by rw [hA];exact Nat.le_refl _
         rw [← hA];clear hA hY hYe f0 f1 f2 f3 f4 f5 f6 f7 ff HZ5)
    all_goals
      obtain ⟨z,hz⟩:=qF x;rw [← hz];have HR:Hid (Bw W Y/\Y.heap[A]? = some (BIx z)/\W.heap.size<=A/\z.i = fi):=by rw [hz];exact ⟨hYB,hYX,hAw,HXI.out⟩
      clear hYB hYX hAw HXI hz;revert HR;revert A Y z;exact hK.out
  intro Y A x HR;clear HSG HB01 HB02 HC;have HBY:Hid (Bw w Y):=HB0.out.trans (HR.out.1.mono HB0.out.size);have HZ:Hid (Y.heap[w.heap.size]? = some BR0):=(HR.out.1.block _ hwW).trans HA0.out;have hzl:=(Array.getElem?_eq_some_iff.1 HZ.out).1;have hAl:=(Array.getElem?_eq_some_iff.1 HR.out.2.1).1;have hAne:w.heap.size≠A:=by have:=HR.out.2.2.1;omega
  obtain ⟨⟨xg,xk,xl,xs,xt,xr,xe,xn⟩,rp,rn,rc,ep,en,ec⟩:=x;have k1:=cell_at HR.out.2.1 1;have k2:=cell_at HR.out.2.1 2;have k3:=cell_at HR.out.2.1 3;have k4:=cell_at HR.out.2.1 4;simp at k1 k2 k3 k4;have HX:=HR.out.2.2.2;simp only at HX;subst HX;have gg:=fr_at HZ.out;obtain ⟨g0,g1,g2,g3,g4,g5,g6,g7,g8,g9⟩:=rp_of HZ.out;clear HR HA0 HT0 HV HZ HB;go_wp2
  (try simp only [Exit.inBlock,Exit.then])
  refine bodyPost_ret (v:=VRp fe 0 0 xk xl xs xt ⟨#[]⟩ (.slice none 0 0) 0) ?_ rfl ⟨rfl,?_⟩
  · rw [results_cell1 rfl]
    go_simp
  · repeat (with_reducible refine Below.setCell ?_ (by simp) _)
    exact HBY.out
end Go.Proofs.YtneojimodomohaaGreat
