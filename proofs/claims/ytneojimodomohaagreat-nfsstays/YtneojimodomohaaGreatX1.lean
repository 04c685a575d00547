/- Plain, Row, Base, Own, FPlain, Rg, PlainS, RefBase, RefOne, RefA, SRef1, OPlain, OBase, FTwo, FRefA, as one. -/
import Derived.WalkKit
import Derived.ProofKit
import Derived.Deep.AppendSrc
import Derived.Deep.DeepAppendWide
import Derived.WalkSmall
import Derived.BigQuiet
import Derived.Deep.QuietTactic
import Derived.WalkSpells
import Derived.WalkLawsBesides
import Derived.Deep.RegionHeld3
import Derived.Deep.SlicePairs
import Derived.Laws.ResultCell
import Derived.Laws.RangeAny
import Derived.RangeFuncNested
import Derived.RangeFuncBound
import Derived.RangeFuncCalls
import Derived.RangeFuncLeaves
import Derived.Test.YtneojimodomohaaGreatV34
set_option maxHeartbeats 8000000
set_option maxRecDepth 100000
namespace Go.Proofs.YtneojimodomohaaGreat
open Go.RowKit (wrap64)
theorem Bl.not_right {l:List Bl.R} {k:Nat} (hk:k < l.length) {x:Bl.R} (hx:l.getD k (0,.empty) = x) (h:¬ (x.2.size≠0/\Bl.lastEnd (-1) (l.take k) < x.1/\x.1 + x.2.size<=1048576)):decide (Bl.right (-1) l) = false :=
  decide_eq_false fun hr=>h ((Bl.right_take_succ hk hx).1 (Bl.right_take hr (k + 1))).2
end Go.Proofs.YtneojimodomohaaGreat
namespace Go.Proofs.YtneojimodomohaaGreat
namespace Nm
theorem clean_succ {s:ByteArray} {p:Nat} (h:p < s.size) (hc:clean s p) (h1:(s[p]'h).toNat≠47) (h2:(s[p]'h).toNat≠0):clean s (p + 1):=fun i hi hl=>by
  by_cases e:i = p
  · subst e
    exact ⟨h1,h2⟩
  · exact hc i hi (by omega)
end Nm
end Go.Proofs.YtneojimodomohaaGreat
namespace Go.Proofs.YtneojimodomohaaGreat
namespace It
theorem one_gone {g:Int} (hg:1<=g/\g<=1099511627776):one (gone g) = true:=by
  rw [gone,one_free hg (At.right_iff.2 (.inl ⟨rfl,rfl,rfl,rfl⟩))];rfl
theorem find_err {T:List Ino} (h:right T = true) (a b:Int):findErr T a b = if names T a b then 0 else 401:=by unfold findErr;rw [if_pos h]
end It
end Go.Proofs.YtneojimodomohaaGreat
namespace Go.Proofs.YtneojimodomohaaGreat
open Go.ChangeShapes Go.WideShapes Go.ChangeAt Go.RowKit Go.Deep
theorem aright_any (k l s t:Int) (w:World):Calls Tryz.prog 182 #[VA k l s t] w fun e w'=>e = .returned (.bool (At.right k l s t))/\w' = w.alloc (BA k l s t):=by
 by_cases k0:k = 0
 ·have HE:Hid (At.right k l s t = (decide (l = 0) && decide (s = 0) && decide (t = 0))):=by
   show At.right k l s t = _;unfold At.right At.rightP;rw [Bool.eq_iff_iff];simp [k0,and_assoc]
  subst k0;obtain ⟨y,hy⟩:=qE (At.right 0 l s t);have HY:Hid _:=hy;rw [hy];clear hy
  by_cases l0:l = 0
  ·by_cases s0:s = 0
   ·by_cases t0:t = 0
    all_goals
     have H:Hid (y = decide (t = 0)):=by show y = _;rw [← HY.out,HE.out];simp [l0,s0]
     subst l0;subst s0;go_enter Tryz.func182,Tryz.ntmps182;go_wp2;go_ret;rw [H.out];simp [t0]
   ·have H:Hid (y = false):=by show y = _;rw [← HY.out,HE.out];simp [s0]
    subst l0;go_enter Tryz.func182,Tryz.ntmps182;go_wp2;go_ret;rw [H.out];exact ⟨rfl,rfl⟩
  ·have H:Hid (y = false):=by show y = _;rw [← HY.out,HE.out];simp [l0]
   go_enter Tryz.func182,Tryz.ntmps182;go_wp2;go_ret;rw [H.out];exact ⟨rfl,rfl⟩
 ·obtain ⟨y,hy⟩:=qE (At.right k l s t);have HY:Hid _:=hy;rw [hy];clear hy
  by_cases s0:s < 0
  ·have H:Hid (y = false):=by rw [← HY.out];exact At.wrong_iff.2 (by unfold At.rightP;omega)
   go_enter Tryz.func182,Tryz.ntmps182;go_wp2;go_ret;rw [H.out];exact ⟨rfl,rfl⟩
  by_cases s1:1048576 < s
  ·have H:Hid (y = false):=by rw [← HY.out];exact At.wrong_iff.2 (by unfold At.rightP;omega)
   go_enter Tryz.func182,Tryz.ntmps182;go_wp2;go_ret;rw [H.out];exact ⟨rfl,rfl⟩
  by_cases t0:t < 0
  ·have H:Hid (y = false):=by rw [← HY.out];exact At.wrong_iff.2 (by unfold At.rightP;omega)
   go_enter Tryz.func182,Tryz.ntmps182;go_wp2;go_ret;rw [H.out];exact ⟨rfl,rfl⟩
  by_cases t1:1099511627776 < t
  ·have H:Hid (y = false):=by rw [← HY.out];exact At.wrong_iff.2 (by unfold At.rightP;omega)
   go_enter Tryz.func182,Tryz.ntmps182;go_wp2;go_ret;rw [H.out];exact ⟨rfl,rfl⟩
  by_cases k1:k = 1
  ·by_cases l0:0<=l
   ·by_cases l1:l<=64
    ·have H:Hid (y = true):=by rw [← HY.out];exact At.right_iff.2 (by unfold At.rightP;omega)
     subst k1;go_enter Tryz.func182,Tryz.ntmps182;go_wp2;go_ret;rw [H.out];exact ⟨rfl,rfl⟩
    ·have H:Hid (y = false):=by rw [← HY.out];exact At.wrong_iff.2 (by unfold At.rightP;omega)
     subst k1;go_enter Tryz.func182,Tryz.ntmps182;go_wp2;go_ret;rw [H.out];exact ⟨rfl,rfl⟩
   ·have H:Hid (y = false):=by rw [← HY.out];exact At.wrong_iff.2 (by unfold At.rightP;omega)
    subst k1;go_enter Tryz.func182,Tryz.ntmps182;go_wp2;go_ret;rw [H.out];exact ⟨rfl,rfl⟩
  by_cases k2:k = 2
  ·by_cases l1:l = 1
   ·have H:Hid (y = true):=by rw [← HY.out];exact At.right_iff.2 (by unfold At.rightP;omega)
    subst k2;subst l1;go_enter Tryz.func182,Tryz.ntmps182;go_wp2;go_ret;rw [H.out];exact ⟨rfl,rfl⟩
   ·have H:Hid (y = false):=by rw [← HY.out];exact At.wrong_iff.2 (by unfold At.rightP;omega)
    subst k2;have l1':(l == 1) = false:=by simpa using l1
    go_enter Tryz.func182,Tryz.ntmps182;go_wp2;go_ret;rw [H.out];exact ⟨rfl,rfl⟩
  have H:Hid (y = false):=by rw [← HY.out];exact At.wrong_iff.2 (by unfold At.rightP;omega)
  go_enter Tryz.func182,Tryz.ntmps182;go_wp2;go_ret;rw [H.out];exact ⟨rfl,rfl⟩
theorem bright_any (v:Value) (l:List Bl.R) (w:World) (hv:FieldsAt w.heap.size w v l) (hok:okFields l) :
  Calls Tryz.prog 175 #[v] w fun e w'=>e = .returned (.bool (decide (Bl.right (-1) l)))/\Bw w w':=by
 obtain ⟨ao,cap,rfl,hm,hx⟩:=hv.open;clear hv;unfold maxLen at hm;obtain ⟨n,hn⟩:=qE l.length;rw [hn] at hm hx ⊢;have HN:Hid (l.length = n):=hn;have HX:Hid (∀ j,j < n->∃ b off,ao = some ⟨b,off,none⟩/\b < w.heap.size/\w.cell? ⟨b,off + j * 2,none⟩ = some (.int .i64 (l.getD j (0,.empty)).1)/\w.cell? ⟨b,off + j * 2 + 1,none⟩ = some (.string (l.getD j (0,.empty)).2)):=hx;have HO:Hid (okFields l):=hok;clear hn hx hok;obtain ⟨rb,hrb⟩:=qE (decide (Bl.right (-1) l));have HRB:Hid (decide (Bl.right (-1) l) = rb):=hrb;rw [hrb];clear hrb;go_enter Tryz.func175,Tryz.ntmps175;go_wp2;go_loopw [7] (fun i wr=>∃ k:Nat,k<=n/\i = .int .i64 k/\Bl.right (-1) (l.take k)/\Bw w wr) (fun i _=>n - (intOf i).toNat)
 case atStart=>exact ⟨0,Nat.zero_le _,rfl,trivial,Below.refl _ _⟩
 case round =>
  obtain ⟨k,hk,rfl,hr,hbl⟩:=hrel;have hsz:=hbl.size;have HR:Hid (Bl.right (-1) (l.take k)):=hr;clear hr
  by_cases hlt:k < n
  ·obtain ⟨b,off,rfl,hB,c0,c1⟩:=HX.out k hlt;have hk':k < l.length:=by rw [HN.out];exact hlt
   have hof:=HO.out.at hk';rw [← hbl.cell (p:=⟨b,off + k * 2,none⟩) hB] at c0;rw [← hbl.cell (p:=⟨b,off + k * 2 + 1,none⟩) hB] at c1;obtain ⟨x,hxk⟩:=qE (l.getD k (0,.empty));rw [hxk] at c0 c1 hof;have HXK:Hid _:=hxk;clear hxk;obtain ⟨xa,xs⟩:=x;simp only at c0 c1 hof;obtain ⟨⟨ha0,ha1⟩,hs1⟩:=hof;unfold maxLen at hs1;have hlt':(k:Int) < (n:Int):=by omega
   have hbw:b < wr.heap.size:=by omega
   have HL0:Hid _:=(Bl.lastEnd_bd HR.out).1
   by_cases h1:xs.size = 0
   ·have H:Hid (rb = false):=by rw [← HRB.out];exact Bl.not_right hk' HXK.out (fun h=>h.1 h1)
    have hem:xs.toList.isEmpty = true:=by
     rw [ByteArray.toList_eq,List.isEmpty_iff];exact List.eq_nil_of_length_eq_zero (by simpa using h1)
    clear h1;go_wp2;go_ret;rw [H.out];exact ⟨rfl,hbl.alloc hsz _⟩
   have hem:xs.toList.isEmpty = false:=by
    rw [ByteArray.toList_eq,List.isEmpty_eq_false_iff];intro h;have:xs.data.toList.length = 0:=by rw [h];rfl
    exact h1 (by simpa using this)
   have H1:Hid _:=h1;clear h1
   by_cases h2:xa < 0
   ·have H:Hid (rb = false):=by rw [← HRB.out];exact Bl.not_right hk' HXK.out (fun h=>by have h5:=h.2.1;have:=HL0.out;simp only at h5;omega)
    go_wp2;go_ret;rw [H.out];exact ⟨rfl,hbl.alloc hsz _⟩
   by_cases h3:1048576 < xa
   ·have H:Hid (rb = false):=by rw [← HRB.out];exact Bl.not_right hk' HXK.out (fun h=>by have h5:=h.2.2;simp only at h5;omega)
    go_wp2;go_ret;rw [H.out];exact ⟨rfl,hbl.alloc hsz _⟩
   by_cases h4:1048576 - xa < (xs.size:Int)
   ·have H:Hid (rb = false):=by rw [← HRB.out];exact Bl.not_right hk' HXK.out (fun h=>by have h5:=h.2.2;simp only at h5;omega)
    go_wp2;go_ret;rw [H.out];exact ⟨rfl,hbl.alloc hsz _⟩
   by_cases hk0:k = 0
   ·have hg:decide (0 < k) = false:=by simp [hk0]
    have HLE:Hid (Bl.lastEnd (-1) (l.take k) < xa):=by
     show Bl.lastEnd (-1) (l.take k) < xa;rw [hk0];show (-1:Int) < xa;omega
    clear hk0;go_wp2
    go_quiet (fail)
    go_wp2
    go_roundw
    case rel=>exact ⟨k + 1,by omega,by go_num,(Bl.right_take_succ hk' HXK.out).2 ⟨HR.out,H1.out,HLE.out,by simp only;omega⟩,Go.below_drewN (hbl.alloc hsz _) _⟩
    case measure=>simp [intOf];omega
   ·obtain ⟨j,rfl⟩:∃ j,k = j + 1:=⟨k - 1,by omega⟩;obtain ⟨b2,off2,hbe,hB2,d0,d1⟩:=HX.out j (by omega)
    cases hbe
    rw [← hbl.cell (p:=⟨b,off + j * 2,none⟩) hB] at d0;rw [← hbl.cell (p:=⟨b,off + j * 2 + 1,none⟩) hB] at d1;obtain ⟨y,hyk⟩:=qE (l.getD j (0,.empty));have hj':j < l.length:=by rw [HN.out];omega
    have hyr:=((Bl.right_take_succ hj' hyk).1 HR.out).2;have HLE:Hid _:=Bl.lastEnd_succ hj' hyk;have hy0:-1<=Bl.lastEnd (-1) (l.take j):=(Bl.lastEnd_bd (Bl.right_take HR.out j |> fun h=>by rwa [List.take_take,Nat.min_eq_left (by omega)] at h)).1;rw [hyk] at d0 d1;clear hyk;obtain ⟨ya,ys⟩:=y;simp only at d0 d1 hyr HLE;obtain ⟨_,hya,hye⟩:=hyr;have hya0:0<=ya:=by omega
    clear hya hy0 hk0;have hg:decide (0 < j + 1) = true:=by simp
    have hjn:(j:Int) < (n:Int):=by omega
    have hj0:(0:Int)<=(j:Int):=by omega
    by_cases hc:xa<=ya + (ys.size:Int)
    ·have H:Hid (rb = false):=by rw [← HRB.out];exact Bl.not_right hk' HXK.out (fun h=>by have h5:=h.2.1;rw [HLE.out] at h5;simp only at h5;omega)
     go_wp2
     go_quiet (fail)
     go_wp2;go_ret;rw [H.out];exact ⟨rfl,Go.below_drewN (hbl.alloc hsz _) _⟩
    ·go_wp2
     go_quiet (fail)
     go_wp2
     go_roundw
     case rel=>exact ⟨j + 1 + 1,by omega,by go_num,(Bl.right_take_succ hk' HXK.out).2 ⟨HR.out,H1.out,by rw [HLE.out];simp only;omega,by simp only;omega⟩,Go.below_drewN (hbl.alloc hsz _) _⟩
     case measure=>simp [intOf];omega
  ·obtain rfl:k = n:=by omega
   have H:Hid (rb = true):=by
    rw [← HRB.out];have:=HR.out;rw [← HN.out,List.take_length] at this;exact decide_eq_true this
   go_wp2;go_ret;rw [H.out];exact ⟨rfl,hbl⟩
end Go.Proofs.YtneojimodomohaaGreat
namespace Go.Proofs.YtneojimodomohaaGreat
open Go.ChangeShapes Go.WideShapes Go.ChangeAt Go.RowKit Go.Deep It
theorem Bl.mem_end {l:List Bl.R}:∀ {a:Int},Bl.right a l->∀ r∈l,r.1 + r.2.size<=Bl.lastEnd a l:=by
 induction l with
 | nil=>intro a _ r hr;cases hr
 | cons s l ih =>
  intro a h r hr;rcases List.mem_cons.1 hr with rfl | hr
  ·exact Bl.right_lastEnd h.2
  ·exact ih h.2 r hr
theorem Bl.end_le {l:List Bl.R} (h:Bl.right (-1) l) {s:Int} (hs:0<=s):Bl.endOf l<=s ↔ ∀ r∈l,r.1 + r.2.size<=s:=by
 unfold Bl.endOf;rw [if_pos h];rcases Bl.snoc_cases l with rfl | ⟨m,r,rfl⟩
 ·exact ⟨fun _ r hr=>(by cases hr),fun _=>hs⟩
 ·have he:Bl.lastEnd 0 (m ++ [r]) = r.1 + r.2.size:=by rw [Bl.lastEnd_append];rfl
  have he':Bl.lastEnd (-1) (m ++ [r]) = r.1 + r.2.size:=by rw [Bl.lastEnd_append];rfl
  rw [he];constructor
  ·intro h1 q hq;have:=Bl.mem_end h q hq;rw [he'] at this;omega
  ·intro h1;exact h1 r (by simp)
theorem rone_lo (g k l s t nx:Int) (rp ep:Option Addr) (rn rc en ec:Nat) (w:World) (hg:g < 1) :
  Calls Tryz.prog 139 #[.agg #[.int .i64 g,.int .i64 k,.int .i64 l,.int .i64 s,.int .i64 t,.slice rp rn rc,.slice ep en ec,.int .i64 nx]] w fun e w'=>e = .returned (.bool false)/\Bw w w':=by
 go_enter Tryz.func139,Tryz.ntmps139;go_wp2;go_ret;exact ⟨rfl,qG _ _⟩
theorem rone_hi (g k l s t nx:Int) (rp ep:Option Addr) (rn rc en ec:Nat) (w:World) (hg0:¬ g < 1) (hg:1099511627776 < g) :
  Calls Tryz.prog 139 #[.agg #[.int .i64 g,.int .i64 k,.int .i64 l,.int .i64 s,.int .i64 t,.slice rp rn rc,.slice ep en ec,.int .i64 nx]] w fun e w'=>e = .returned (.bool false)/\Bw w w':=by
 go_enter Tryz.func139,Tryz.ntmps139;go_wp2;go_ret;exact ⟨rfl,qG _ _⟩
theorem rone_attr (g k l s t nx:Int) (rp ep:Option Addr) (rn rc en ec:Nat) (w:World) (hg:1<=g/\g<=1099511627776) (ha:At.right k l s t = false) :
  Calls Tryz.prog 139 #[.agg #[.int .i64 g,.int .i64 k,.int .i64 l,.int .i64 s,.int .i64 t,.slice rp rn rc,.slice ep en ec,.int .i64 nx]] w fun e w'=>e = .returned (.bool false)/\Bw w w':=by
 have HA:Hid _:=ha;have hg1:¬ g < 1:=by omega
 have hg2:¬ 1099511627776 < g:=by omega
 clear hg ha;go_enter Tryz.func139,Tryz.ntmps139;go_wp2_with fail;refine (aright_any _ _ _ _ _).mono ?_;rintro e w' ⟨rfl,rfl⟩;rw [HA.out];go_wp2;go_ret;exact ⟨rfl,(qG _ _).alloc (by simp) _⟩
theorem rone_dir (g l s t nx:Int) (rp ep:Option Addr) (rn rc en ec:Nat) (w:World) (hg:1<=g/\g<=1099511627776) (ha:At.right 2 l s t = true) :
  Calls Tryz.prog 139 #[.agg #[.int .i64 g,.int .i64 2,.int .i64 l,.int .i64 s,.int .i64 t,.slice rp rn rc,.slice ep en ec,.int .i64 nx]] w fun e w'=>e = .returned (.bool (decide (rn = 0)))/\Bw w w':=by
 have HA:Hid _:=ha;have hg1:¬ g < 1:=by omega
 have hg2:¬ 1099511627776 < g:=by omega
 clear hg ha
 by_cases hr:rn = 0
 ·have hr':¬ (0:Int) < (rn:Int):=by omega
  rw [decide_eq_true hr];clear hr;go_enter Tryz.func139,Tryz.ntmps139;go_wp2_with fail;refine (aright_any _ _ _ _ _).mono ?_;rintro e w' ⟨rfl,rfl⟩;rw [HA.out];go_wp2;go_ret;exact ⟨rfl,(qG _ _).alloc (by simp) _⟩
 ·have hr':(0:Int) < (rn:Int):=by omega
  rw [decide_eq_false hr];clear hr;go_enter Tryz.func139,Tryz.ntmps139;go_wp2_with fail;refine (aright_any _ _ _ _ _).mono ?_;rintro e w' ⟨rfl,rfl⟩;rw [HA.out];go_wp2;go_ret;exact ⟨rfl,(qG _ _).alloc (by simp) _⟩
theorem rone_free (g l s t nx:Int) (rp ep:Option Addr) (rn rc en ec:Nat) (w:World) (hg:1<=g/\g<=1099511627776) (ha:At.right 0 l s t = true) :
  Calls Tryz.prog 139 #[.agg #[.int .i64 g,.int .i64 0,.int .i64 l,.int .i64 s,.int .i64 t,.slice rp rn rc,.slice ep en ec,.int .i64 nx]] w fun e w'=>e = .returned (.bool (decide (en = 0) && decide (nx = 0) && decide (rn = 0)))/\Bw w w':=by
 have HA:Hid _:=ha;have hg1:¬ g < 1:=by omega
 have hg2:¬ 1099511627776 < g:=by omega
 clear hg ha
 by_cases hr:rn = 0
 ·have hr':¬ (0:Int) < (rn:Int):=by omega
  rw [decide_eq_true hr,Bool.and_true];clear hr
  by_cases he:en = 0
  ·have he':¬ (0:Int) < (en:Int):=by omega
   rw [decide_eq_true he,Bool.true_and];clear he
   by_cases hn:nx = 0
   ·have hn':(nx != 0) = false:=by simp [hn]
    rw [decide_eq_true hn];clear hn;go_enter Tryz.func139,Tryz.ntmps139;go_wp2_with fail;refine (aright_any _ _ _ _ _).mono ?_;rintro e w' ⟨rfl,rfl⟩;rw [HA.out];go_wp2;go_ret;exact ⟨rfl,(qG _ _).alloc (by simp) _⟩
   ·have hn':(nx != 0) = true:=by simp [hn]
    rw [decide_eq_false hn];clear hn;go_enter Tryz.func139,Tryz.ntmps139;go_wp2_with fail;refine (aright_any _ _ _ _ _).mono ?_;rintro e w' ⟨rfl,rfl⟩;rw [HA.out];go_wp2;go_ret;exact ⟨rfl,(qG _ _).alloc (by simp) _⟩
  ·have he':(0:Int) < (en:Int):=by omega
   rw [decide_eq_false he,Bool.false_and];clear he;go_enter Tryz.func139,Tryz.ntmps139;go_wp2_with fail;refine (aright_any _ _ _ _ _).mono ?_;rintro e w' ⟨rfl,rfl⟩;rw [HA.out];go_wp2;go_ret;exact ⟨rfl,(qG _ _).alloc (by simp) _⟩
 ·have hr':(0:Int) < (rn:Int):=by omega
  rw [decide_eq_false hr,Bool.and_false];clear hr;go_enter Tryz.func139,Tryz.ntmps139;go_wp2_with fail;refine (aright_any _ _ _ _ _).mono ?_;rintro e w' ⟨rfl,rfl⟩;rw [HA.out];go_wp2;go_ret;exact ⟨rfl,(qG _ _).alloc (by simp) _⟩
theorem rone_fileno (g l s t nx:Int) (rp ep:Option Addr) (rn rc en ec:Nat) (w:World) (hg:1<=g/\g<=1099511627776) (ha:At.right 1 l s t = true) (hb:¬ (en = 0/\nx = 0)) :
  Calls Tryz.prog 139 #[.agg #[.int .i64 g,.int .i64 1,.int .i64 l,.int .i64 s,.int .i64 t,.slice rp rn rc,.slice ep en ec,.int .i64 nx]] w fun e w'=>e = .returned (.bool false)/\Bw w w':=by
 have HA:Hid _:=ha;have hg1:¬ g < 1:=by omega
 have hg2:¬ 1099511627776 < g:=by omega
 clear hg ha
 by_cases he:en = 0
 ·have he':¬ (0:Int) < (en:Int):=by omega
  have hn':(nx != 0) = true:=by
   simp;intro h;exact hb ⟨he,h⟩
  clear he hb;go_enter Tryz.func139,Tryz.ntmps139;go_wp2_with fail;refine (aright_any _ _ _ _ _).mono ?_;rintro e w' ⟨rfl,rfl⟩;rw [HA.out];go_wp2;go_ret;exact ⟨rfl,(qG _ _).alloc (by simp) _⟩
 ·have he':(0:Int) < (en:Int):=by omega
  clear he hb;go_enter Tryz.func139,Tryz.ntmps139;go_wp2_with fail;refine (aright_any _ _ _ _ _).mono ?_;rintro e w' ⟨rfl,rfl⟩;rw [HA.out];go_wp2;go_ret;exact ⟨rfl,(qG _ _).alloc (by simp) _⟩
theorem rone_filebad (g l s t:Int) (rp ep:Option Addr) (rn rc ec:Nat) (w:World) (hg:1<=g/\g<=1099511627776) (ha:At.right 1 l s t = true) (rs:List (Int × ByteArray)) (hr:AtW ER w (.slice rp rn rc) rs) (ho:okFields rs) (hq:¬ Bl.right (-1) rs) :
  Calls Tryz.prog 139 #[.agg #[.int .i64 g,.int .i64 1,.int .i64 l,.int .i64 s,.int .i64 t,.slice rp rn rc,.slice ep 0 ec,.int .i64 0]] w fun e w'=>e = .returned (.bool false)/\Bw w w':=by
 have hw:Bw w ((w.alloc (.cells #[.int .i64 g,.int .i64 1,.int .i64 l,.int .i64 s,.int .i64 t,.slice rp rn rc,.slice ep 0 ec,.int .i64 0] 58)).alloc (BA 1 l s t)):=(qG _ _).alloc (by simp) _;have HF:Hid _:=(hr.up hw).fields;have HO:Hid _:=ho;have HW:Hid _:=hw;have HA8:Hid (((w.alloc (.cells #[.int .i64 g,.int .i64 1,.int .i64 l,.int .i64 s,.int .i64 t,.slice rp rn rc,.slice ep 0 ec,.int .i64 0] 58)).alloc (BA 1 l s t)).heap[w.heap.size]? = some (.cells #[.int .i64 g,.int .i64 1,.int .i64 l,.int .i64 s,.int .i64 t,.slice rp rn rc,.slice ep 0 ec,.int .i64 0] 58 (0,0))):=(Below.heap_alloc _ _ _ (by simp)).trans (heap_alloc_new _ _);have HA:Hid _:=ha;have hg1:¬ g < 1:=by omega
 have hg2:¬ 1099511627776 < g:=by omega
 clear hg ha;have HQ:Hid _:=decide_eq_false hq;clear hr ho hq hw;go_enter Tryz.func139,Tryz.ntmps139;go_wp2_with fail;refine (aright_any _ _ _ _ _).mono ?_;rintro e w' ⟨rfl,rfl⟩;rw [HA.out];go_wp2_with fail;refine (bright_any _ rs _ HF.out HO.out).mono ?_;rintro e w2 ⟨rfl,hb2⟩;rw [HQ.out];have HB2:=qJ HW hb2;clear hb2;go_wp2;go_ret;exact ⟨rfl,HB2.out⟩
theorem rone_file (g l s t:Int) (rp ep:Option Addr) (rn rc ec:Nat) (w:World) (hg:1<=g/\g<=1099511627776) (ha:At.right 1 l s t = true) (rs:List (Int × ByteArray)) (hr:AtW ER w (.slice rp rn rc) rs) (ho:okFields rs) (hq:Bl.right (-1) rs) :
  Calls Tryz.prog 139 #[.agg #[.int .i64 g,.int .i64 1,.int .i64 l,.int .i64 s,.int .i64 t,.slice rp rn rc,.slice ep 0 ec,.int .i64 0]] w fun e w'=>e = .returned (.bool (decide (∀ r∈rs,r.1 + r.2.size<=s)))/\Bw w w':=by
 have hw:Bw w ((w.alloc (.cells #[.int .i64 g,.int .i64 1,.int .i64 l,.int .i64 s,.int .i64 t,.slice rp rn rc,.slice ep 0 ec,.int .i64 0] 58)).alloc (BA 1 l s t)):=(qG _ _).alloc (by simp) _;have HF:Hid (FieldsAt ((w.alloc (.cells #[.int .i64 g,.int .i64 1,.int .i64 l,.int .i64 s,.int .i64 t,.slice rp rn rc,.slice ep 0 ec,.int .i64 0] 58)).alloc (BA 1 l s t)).heap.size ((w.alloc (.cells #[.int .i64 g,.int .i64 1,.int .i64 l,.int .i64 s,.int .i64 t,.slice rp rn rc,.slice ep 0 ec,.int .i64 0] 58)).alloc (BA 1 l s t)) (.slice rp rn rc) rs):=(hr.up hw).fields;have HO:Hid (okFields rs):=ho;have HW:Hid (Bw w ((w.alloc (.cells #[.int .i64 g,.int .i64 1,.int .i64 l,.int .i64 s,.int .i64 t,.slice rp rn rc,.slice ep 0 ec,.int .i64 0] 58)).alloc (BA 1 l s t))):=hw;have HA8:Hid (((w.alloc (.cells #[.int .i64 g,.int .i64 1,.int .i64 l,.int .i64 s,.int .i64 t,.slice rp rn rc,.slice ep 0 ec,.int .i64 0] 58)).alloc (BA 1 l s t)).heap[w.heap.size]? = some (.cells #[.int .i64 g,.int .i64 1,.int .i64 l,.int .i64 s,.int .i64 t,.slice rp rn rc,.slice ep 0 ec,.int .i64 0] 58 (0,0))):=(Below.heap_alloc _ _ _ (by simp)).trans (heap_alloc_new _ _);have HA:Hid (At.right 1 l s t = true):=ha;have hg1:¬ g < 1:=by omega
 have hg2:¬ 1099511627776 < g:=by omega
 clear hg ha;have HQ:Hid (decide (Bl.right (-1) rs) = true):=decide_eq_true hq;have HQR:Hid (∀ r∈rs,-1 < r.1/\r.1 + r.2.size<=1048576):=fun r hr=>by
  have:=Bl.right_mem hq r hr;exact ⟨this.2.1,this.2.2⟩
 obtain ⟨res,hres⟩:=qE (decide (∀ r∈rs,r.1 + r.2.size<=s));have HRES:Hid (decide (∀ r∈rs,r.1 + r.2.size<=s) = res):=hres;rw [hres];obtain ⟨hlen,_⟩:rn = rs.length/\True:=by
  obtain ⟨_,_,h1,_⟩:=hr.open;simp only [Value.slice.injEq] at h1;exact ⟨h1.2.1,trivial⟩
 have HLN:Hid (rn = rs.length):=hlen;have hrn:rn<=9223372036854775807:=by
  obtain ⟨_,_,_,h2,_⟩:=hr.open;unfold maxLen at h2;omega
 clear hr ho hq hw hres hlen;go_enter Tryz.func139,Tryz.ntmps139;go_wp2_with fail;refine (aright_any _ _ _ _ _).mono ?_;rintro e w' ⟨rfl,rfl⟩;rw [HA.out];go_wp2_with fail;refine (bright_any _ rs _ HF.out HO.out).mono ?_;rintro e w2 ⟨rfl,hb2⟩;rw [HQ.out];have HB2:Hid (Bw w w2):=HW.out.trans (hb2.mono HW.out.size);have HA2:Hid (w2.heap[w.heap.size]? = some (.cells #[.int .i64 g,.int .i64 1,.int .i64 l,.int .i64 s,.int .i64 t,.slice rp rn rc,.slice ep 0 ec,.int .i64 0] 58 (0,0))):=(hb2.block _ (by simp;omega)).trans HA8.out;have hF2:=HF.out.up hb2;obtain ⟨ao',cap',hv',_,hx⟩:=hF2.open;simp only [Value.slice.injEq] at hv';obtain ⟨rfl,-,rfl⟩:=hv';have HX:Hid (∀ j,j < rs.length->∃ b off,rp = some ⟨b,off,none⟩/\b < w2.heap.size/\w2.cell? ⟨b,off + j * 2,none⟩ = some (.int .i64 (rs.getD j (0,.empty)).1)/\w2.cell? ⟨b,off + j * 2 + 1,none⟩ = some (.string (rs.getD j (0,.empty)).2)):=hx;have c5:w2.cell? ⟨w.heap.size,5,none⟩ = some (.slice rp rn rc):=by simp [World.cell?,HA2.out]
 have HC3:Hid (w2.cell? ⟨w.heap.size,3,none⟩ = some (.int .i64 s)):=by show w2.cell? _ = _;simp [World.cell?,HA2.out]
 have hws:w.heap.size < w2.heap.size:=(qL HA2.out);clear hb2 hx hF2;go_wp2;go_loopw [55] (fun i wr=>∃ k:Nat,k<=rn/\i = .int .i64 k/\(∀ r∈rs.take k,r.1 + r.2.size<=s)/\Bw w2 wr) (fun i _=>rn - (intOf i).toNat)
 case atStart=>exact ⟨0,Nat.zero_le _,rfl,by simp,Below.refl _ _⟩
 case round =>
  obtain ⟨k,hk,rfl,hall,hbl⟩:=hrel;have HALL:Hid (∀ r∈rs.take k,r.1 + r.2.size<=s):=hall;have hsz:=hbl.size;clear hall
  by_cases hlt:k < rn
  ·obtain ⟨b,off,rfl,hB,c0,c1⟩:=HX.out k (by rw [← HLN.out];exact hlt);have hk':k < rs.length:=by rw [← HLN.out];exact hlt
   have hget:rs[k]? = some (rs.getD k (0,.empty)):=by simp [List.getD,hk']
   rw [← hbl.cell (p:=⟨b,off + k * 2,none⟩) hB] at c0;rw [← hbl.cell (p:=⟨b,off + k * 2 + 1,none⟩) hB] at c1;have HT:=It.take_succ hget;have hmem:=List.mem_of_getElem? hget;have hbd:=HQR.out _ hmem;generalize rs.getD k (0,.empty) = x at c0 c1 HT hbd hmem hget;obtain ⟨xa,xs⟩:=x;simp only at c0 c1 hbd;obtain ⟨hb0,hb1⟩:=hbd;have HTT:Hid (rs.take (k + 1) = rs.take k ++ [(xa,xs)]/\(xa,xs)∈rs):=⟨HT,hmem⟩;have d3:(wr.alloc (.cells #[.int .i64 xa,.string xs] 60)).cell? ⟨w.heap.size,3,none⟩ = some (.int .i64 s):=by
    rw [World.cell?_alloc_lt _ _ _ (by show w.heap.size < _;omega)];exact (hbl.cell (p:=⟨w.heap.size,3,none⟩) hws).trans HC3.out
   have hlt':(k:Int) < (rn:Int):=by omega
   clear HT hmem hget hB
   by_cases hc:s < xa + (xs.size:Int)
   ·have H:Hid (res = false):=by
     show res = false;rw [← HRES.out];apply decide_eq_false
     intro h;have:=h _ HTT.out.2;simp only at this;omega
    go_wp2;go_ret;rw [H.out];exact ⟨rfl,(HB2.out.trans (hbl.mono HB2.out.size)).alloc (by have:=HB2.out.size;omega) _⟩
   ·go_wp2
    go_roundw
    case rel =>
     refine ⟨k + 1,by omega,by go_num,fun r hr=>?_,hbl.alloc hsz _⟩;rw [HTT.out.1,List.mem_append] at hr;rcases hr with hr | hr
     ·exact HALL.out r hr
     ·simp at hr;subst hr;simp only;omega
    case measure=>simp [intOf];omega
  ·obtain rfl:k = rn:=by omega
   have H:Hid (res = true):=by
    show res = true;rw [← HRES.out];apply decide_eq_true
    have:=HALL.out
    rwa [HLN.out,List.take_length] at this
   go_wp2;go_ret;rw [H.out];exact ⟨rfl,HB2.out.trans (hbl.mono HB2.out.size)⟩
theorem rone_any {S:Nat->Prop} (x:Rw) (w:World) (h:Good S w x):Calls Tryz.prog 139 #[VI x] w fun e w'=>e = .returned (.bool (one x.i))/\Bw w w':=by
 obtain ⟨hrn,hen⟩:=h.len;obtain ⟨hr,_,ho,_⟩:=h;obtain ⟨⟨g,k,l,s,t,rs,es,nx⟩,rp,rn,rc,ep,en,ec⟩:=x;simp only at hrn hen hr ho ⊢
 by_cases hg:1<=g/\g<=1099511627776
 ·cases ha:At.right k l s t with
  | false =>
   rw [one_attr ha];exact rone_attr g k l s t nx rp ep rn rc en ec w hg ha
  | true =>
   rcases kind_bd ha with rfl | rfl | rfl
   ·rw [one_free hg ha,isEmpty_len es hen,isEmpty_len rs hrn];exact rone_free g l s t nx rp ep rn rc en ec w hg ha
   ·rw [one_file hg ha, isEmpty_len es hen]
    by_cases hb:en = 0/\nx = 0
    ·rw [decide_eq_true hb.1,decide_eq_true hb.2];obtain ⟨rfl,rfl⟩:=hb
     by_cases hq:Bl.right (-1) rs
     ·have hs0:0<=s:=by
       rcases At.right_iff.1 ha with h | h
       ·omega
       ·exact h.1.1
      have e:decide (Bl.endOf rs<=s) = decide (∀ r∈rs,r.1 + r.2.size<=s):=decide_eq_decide.2 (Bl.end_le hq hs0);rw [decide_eq_true hq,e];exact rone_file g l s t rp ep rn rc ec w hg ha rs hr.wide ho hq
     ·rw [decide_eq_false hq];exact rone_filebad g l s t rp ep rn rc ec w hg ha rs hr.wide ho hq
    ·rw [show (decide (en = 0) && decide (nx = 0)) = false from by simpa using hb];exact rone_fileno g l s t nx rp ep rn rc en ec w hg ha hb
   ·rw [one_dir hg ha,isEmpty_len rs hrn];exact rone_dir g l s t nx rp ep rn rc en ec w hg ha
 ·rw [one_gen hg]
  by_cases h1:g < 1
  ·exact rone_lo g k l s t nx rp ep rn rc en ec w h1
  ·exact rone_hi g k l s t nx rp ep rn rc en ec w h1 (by omega)
theorem It.not_right {L:List Ino} (h:It.right L = true->False):It.right L = false:=by
 cases hr:It.right L with
 | false=>rfl
 | true=>exact absurd hr h
theorem rright_any {S : Nat → Prop} (v : Value) (L : List Rw) (w : World) (hv : TabAt S w v L) :
  Calls Tryz.prog 85 #[v] w fun e w'=>e = .returned (.bool (It.right (pl L)))/\Bw w w':=by
 obtain ⟨ao,cap,rfl,hm,hx⟩:=hv.open;clear hv;unfold maxLen at hm;obtain ⟨n,hn⟩:=qE L.length;rw [hn] at hm ⊢;have HN:Hid _:=hn;have HX:Hid (∀ i x,L[i]? = some x->(∃ b off,ao = some ⟨b,off,none⟩/\b < w.heap.size/\eight w b (off + i * 8) x)/\Good S w x):=hx;clear hn hx;obtain ⟨res,hres⟩:=qE (It.right (pl L));have HRES:Hid (It.right (pl L) = res):=hres;rw [hres];clear hres
 by_cases hr:1<=n/\n<=24
 ·have h0 : L[0]? = some (L[0]'(by have := HN.out; omega)) := List.getElem?_eq_getElem _;obtain ⟨x,hx0⟩:∃ x,L[0]? = some x:=⟨_,h0⟩;clear h0;obtain ⟨⟨b,off,rfl,hB,hc⟩,hg⟩:=HX.out 0 x hx0;have c1:=hc.2.1;simp only [Nat.zero_mul,Nat.add_zero] at c1;have hn1:¬ (n:Int) < 1:=by omega
  have hn2:¬ (24:Int) < (n:Int):=by omega
  have hn0:(0:Int) < (n:Int):=by omega
  by_cases hk:x.i.kind = 2
  ·have HR0 : Hid (rootB (pl L) = true) := by
    cases L with
    | nil=>simp at hx0
    | cons y l =>
     simp at hx0;subst hx0;exact decide_eq_true hk
   rw [hk] at c1;clear hc hg hk;go_enter Tryz.func85,Tryz.ntmps85;go_wp2;go_loopw [23] (fun i wr=>∃ k:Nat,k<=n/\i = .int .i64 k/\(∀ y∈L.take k,one y.i = true)/\Bw w wr) (fun i _=>n - (intOf i).toNat)
   case atStart=>exact ⟨0,Nat.zero_le _,rfl,by simp,Below.refl _ _⟩
   case round =>
    obtain ⟨k,hk,rfl,hall,hbl⟩:=hrel;have HALL:Hid (∀ y∈L.take k,one y.i = true):=hall;clear hall;have hsz:=hbl.size
    by_cases hlt:k < n
    ·have h0:L[k]? = some (L[k]'(by have:=HN.out;omega)):=List.getElem?_eq_getElem _;obtain ⟨y,hyk⟩:∃ y,L[k]? = some y:=⟨_,h0⟩;clear h0;obtain ⟨⟨b',off',hbe,hB',hc'⟩,hg'⟩:=HX.out k y hyk
     cases hbe
     obtain ⟨d0,d1,d2,d3,d4,d5,d6,d7⟩:=hc'.below hbl hB';have HGY:Hid (Good S wr y):=hg'.up hbl;have HT:Hid (L.take (k + 1) = L.take k ++ [y]):=It.take_succ hyk;have HMY:Hid (y∈L):=List.mem_of_getElem? hyk;have hlt':(k:Int) < (n:Int):=by omega
     clear hyk hc' hg';go_wp2_with fail;refine (rone_any y _ (HGY.out.up (qG _ _))).mono ?_;rintro e w2 ⟨rfl,hb2⟩;have HB2:Hid _:=(hbl.alloc hsz _).trans (hb2.mono (by simp;omega));clear hb2
     cases ho:one y.i with
     | false =>
      have HE:Hid (res = false):=by
       show res = false;rw [← HRES.out];exact It.not_right fun h=>by
        have:=(It.right_iff.1 h).2.2 y.i (List.mem_map.2 ⟨y,HMY.out,rfl⟩);rw [ho] at this
        cases this
      clear ho;go_wp2;go_ret;rw [HE.out];exact ⟨rfl,HB2.out⟩
     | true =>
      have HO:Hid _:=ho;clear ho;go_wp2
      go_roundw
      case rel =>
       refine ⟨k + 1,by omega,by go_num,fun z hz=>?_,HB2.out⟩;rw [HT.out,List.mem_append] at hz;rcases hz with hz | hz
       ·exact HALL.out z hz
       ·simp at hz;subst hz;exact HO.out
      case measure=>simp [intOf];omega
    ·obtain rfl:k = n:=by omega
     have HE:Hid (res = true):=by
      show res = true;rw [← HRES.out];refine It.right_iff.2 ⟨?_,HR0.out,fun z hz=>?_⟩
      ·have:=HN.out;simp only [pl,List.length_map];omega
      ·obtain ⟨y,hy,rfl⟩:=List.mem_map.1 hz;refine HALL.out y ?_;rw [← HN.out,List.take_length];exact hy
     go_wp2;go_ret;rw [HE.out];exact ⟨rfl,hbl⟩
  ·have hk':(x.i.kind != 2) = true:=by simp [hk]
   have HE:Hid (res = false):=by
    show res = false;rw [← HRES.out];exact It.not_right fun h=>by
     have:=(It.right_iff.1 h).2.1
     cases L with
     | nil=>simp at hx0
     | cons y l =>
      simp at hx0;subst hx0;exact hk (of_decide_eq_true this)
   clear hc hg hk;go_enter Tryz.func85,Tryz.ntmps85;go_wp2;go_ret;rw [HE.out];exact ⟨rfl,Below.refl _ _⟩
 ·have HE:Hid (res = false):=by
   show res = false;rw [← HRES.out];exact It.not_right fun h=>by
    have:=(It.right_iff.1 h).1;simp only [pl,List.length_map] at this;have:=HN.out;omega
  have hor:(n:Int) < 1∨(¬ (n:Int) < 1/\(24:Int) < (n:Int)):=by omega
  clear hr;rcases hor with h1 | ⟨h1,h2⟩
  all_goals
   go_enter Tryz.func85,Tryz.ntmps85;go_wp2;go_ret;rw [HE.out];exact ⟨rfl,Below.refl _ _⟩
theorem rnames_any {S:Nat->Prop} (v:Value) (L:List Rw) (a b:Int) (w:World) (hv:TabAt S w v L) :
  Calls Tryz.prog 36 #[v,.agg #[.int .i64 a,.int .i64 b]] w fun e w'=>e = .returned (.bool (names (pl L) a b))/\Bw w w':=by
 obtain ⟨ao,cap,rfl,hm,hx⟩:=hv.open;clear hv;unfold maxLen at hm;obtain ⟨n,hn⟩:=qE L.length;rw [hn] at hm ⊢;have HN:Hid _:=hn;have HX:Hid _:=hx;obtain ⟨W,hW⟩:=qF (w.alloc (BH a b));have HB0:Hid _:=qB hW;have HA0:Hid _:=qC hW;have hws:w.heap.size < W.heap.size:=by rw [hW];simp
 obtain ⟨res,hres⟩:=qE (names (pl L) a b);have HRES:Hid _:=hres;rw [hres];clear hn hx hres;go_enter Tryz.func36,Tryz.ntmps36;go_wp2;rw [← hW];clear hW;go_loopw [9] (fun i wr=>∃ k:Nat,k<=n/\i = .int .i64 k/\(∀ j x,j < k->L[j]? = some x->¬ ((j:Int) = a/\x.i.gen = b/\x.i.kind≠0))/\Bw W wr) (fun i _=>n - (intOf i).toNat)
 case atStart=>exact ⟨0,Nat.zero_le _,rfl,fun j x hj=>by omega,Below.refl _ _⟩
 case round =>
  obtain ⟨k,hk,rfl,hno,hbl⟩:=hrel;have HNO:Hid _:=hno;have hsz:=hbl.size;have HBW:=qJ HB0 hbl;have HA1:Hid _:=(hbl.block _ hws).trans HA0.out;clear hno
  by_cases hlt:k < n
  ·obtain ⟨y,hyk⟩:∃ y,L[k]? = some y:=⟨_,List.getElem?_eq_getElem (by rw [HN.out];exact hlt)⟩;obtain ⟨⟨b',off,rfl,hB,hc⟩,_⟩:=HX.out k y hyk;obtain ⟨d0,d1,d2,d3,d4,d5,d6,d7⟩:=hc.below HBW.out hB;have HYK:Hid _:=hyk;have HNEXT:¬ ((k:Int) = a/\y.i.gen = b/\y.i.kind≠0)->Hid (∀ j x,j < k + 1->L[j]? = some x->¬ ((j:Int) = a/\x.i.gen = b/\x.i.kind≠0)):=fun hne j x hj hx hq=>by
    rcases Nat.lt_or_ge j k with h | h
    ·exact HNO.out j x h hx hq
    ·obtain rfl:j = k:=by omega
     rw [HYK.out] at hx
     cases hx
     exact hne hq
   have HYES:((k:Int) = a/\y.i.gen = b/\y.i.kind≠0)->Hid (res = true):=fun hq=>by
    show res = true;rw [← HRES.out];exact It.names_iff.2 ⟨k,y.i,It.pl_get HYK.out,hq.1.symm,hq.2.1,hq.2.2⟩
   obtain ⟨⟨g,kk,l,s,t,rs,es,nx⟩,rp,rn,rc,ep,en,ec⟩:=y;simp only at d0 d1 d2 d3 d4 d5 d6 d7 HNEXT HYES;have HA2:Hid ((wr.alloc (B8 g kk l s t (.slice rp rn rc) (.slice ep en ec) nx)).heap[w.heap.size]? = some (BH a b)):=(Below.heap_alloc _ _ _ (by omega)).trans HA1.out;obtain ⟨⟨a0,a1⟩,_⟩:=two_of HA2.out;have hlt':(k:Int) < (n:Int):=by omega
   clear hyk hc hB HYK
   by_cases h1:(k:Int) = a
   ·by_cases h2:g = b
    ·by_cases h3:kk = 0
     ·have HN2:=HNEXT (fun h=>h.2.2 h3);have h1':((k:Int) == a) = true:=by simp [h1]
      have h2':(g == b) = true:=by simp [h2]
      have h3':(kk != 0) = false:=by simp [h3]
      clear h1 h2 h3 HNEXT HYES;go_wp2
      go_roundw
      case rel=>exact ⟨k + 1,by omega,by go_num,HN2.out,hbl.alloc hsz _⟩
      case measure=>simp [intOf];omega
     ·have HE:=HYES ⟨h1,h2,h3⟩;have h1':((k:Int) == a) = true:=by simp [h1]
      have h2':(g == b) = true:=by simp [h2]
      have h3':(kk != 0) = true:=by simp [h3]
      clear h1 h2 h3 HNEXT HYES;go_wp2;go_ret;rw [HE.out];exact ⟨rfl,HBW.out.alloc HBW.out.size _⟩
    ·have HN2:=HNEXT (fun h=>h2 h.2.1);have h1':((k:Int) == a) = true:=by simp [h1]
     have h2':(g == b) = false:=by simp [h2]
     clear h1 h2 HNEXT HYES;go_wp2
     go_roundw
     case rel=>exact ⟨k + 1,by omega,by go_num,HN2.out,hbl.alloc hsz _⟩
     case measure=>simp [intOf];omega
   ·have HN2:=HNEXT (fun h=>h1 h.1);have h1':((k:Int) == a) = false:=by simp [h1]
    clear h1 HNEXT HYES;go_wp2
    go_roundw
    case rel=>exact ⟨k + 1,by omega,by go_num,HN2.out,hbl.alloc hsz _⟩
    case measure=>simp [intOf];omega
  ·obtain rfl:k = n:=by omega
   have HE:Hid (res = false):=by
    show res = false;rw [← HRES.out]
    cases hq:names (pl L) a b with
    | false=>rfl
    | true =>
     obtain ⟨j,y,hja,hy,hyg,hyk,hjl⟩:=It.named hq;exact absurd ⟨hja.symm,hyg,hyk⟩ (HNO.out j y (by rw [← HN.out];exact hjl) hy)
   go_wp2;go_ret;rw [HE.out];exact ⟨rfl,HBW.out⟩
theorem rstamp_any {S:Nat->Prop} (v:Value) (L:List Rw) (w:World) (hv:TabAt S w v L) :
  Calls Tryz.prog 35 #[v] w fun e w'=>e = .returned (.int .i64 (Sp.top (pl L)))/\Bw w w':=by
 obtain ⟨ao,cap,rfl,hm,hx⟩:=hv.open;clear hv;unfold maxLen at hm;obtain ⟨n,hn⟩:=qE L.length;rw [hn] at hm ⊢;have HN:Hid _:=hn;have HX:Hid _:=hx;obtain ⟨r,hr⟩:=qE (Sp.top (pl L));have HR:Hid _:=hr;rw [hr];clear hr hn hx;go_enter Tryz.func35,Tryz.ntmps35;go_wp2;go_loopw [3,8] (fun g i wr=>∃ k:Nat,k<=n/\i = .int .i64 k/\g = .int .i64 (Sp.top (pl (L.take k)))/\Hid (Bw w wr)) (fun _ i _=>n - (intOf i).toNat)
 case atStart=>exact ⟨0,Nat.zero_le _,rfl,rfl,Below.refl _ _⟩
 case round =>
  obtain ⟨k,hk,rfl,rfl,HB⟩:=hrel;have hsz:=HB.out.size;obtain ⟨g,hg⟩:=qE (Sp.top (pl (L.take k)));have HGG:Hid _:=hg;rw [hg];clear hg
  by_cases hlt:k < n
  ·obtain ⟨x,hxk⟩:∃ x,L[k]? = some x:=⟨_,List.getElem?_eq_getElem (by rw [HN.out];exact hlt)⟩;have HXK:Hid _:=hxk;obtain ⟨⟨b,off,rfl,hB,hc⟩,-⟩:=HX.out k x hxk;obtain ⟨c0,c1,c2,c3,c4,c5,c6,c7⟩:=hc.below HB.out hB;have hlt':(k:Int) < (n:Int):=by omega
   clear hc hxk
   by_cases hgt:g < x.i.stamp
   ·have HT:Hid (Sp.top (pl (L.take (k + 1))) = x.i.stamp):=by show Sp.top (pl (L.take (k + 1))) = _;rw [Sp.top_step HXK.out,HGG.out];omega
    go_wp2
    go_roundw
    case rel=>exact ⟨k + 1,by omega,by go_num,by rw [HT.out],HB.out.alloc hsz _⟩
    case measure=>simp [intOf];omega
   ·have HT:Hid (Sp.top (pl (L.take (k + 1))) = g):=by show Sp.top (pl (L.take (k + 1))) = _;rw [Sp.top_step HXK.out,HGG.out];omega
    go_wp2
    go_roundw
    case rel=>exact ⟨k + 1,by omega,by go_num,by rw [HT.out],HB.out.alloc hsz _⟩
    case measure=>simp [intOf];omega
  ·obtain rfl:k = n:=by omega
   have HT:Hid (r = g):=by
    show r = g;rw [← HGG.out,List.take_of_length_le (by rw [HN.out];exact Nat.le_refl _),HR.out]
   go_wp2;go_ret;rw [HT.out];exact ⟨rfl,HB.out⟩
def RtSaid (R:List Ino->Bool):Prop:=∀ (S:Nat->Prop) (v:Value) (L:List Rw) (w:World),TabAt S w v L->Sp.okN L->Calls Tryz.prog 32 #[v] w fun e w'=>e = .returned (.bool (R (pl L)))/\Bw w w'
end Go.Proofs.YtneojimodomohaaGreat
namespace Go.Proofs.YtneojimodomohaaGreat.Os
open Go.RowKit
namespace Op
theorem right_one {l : List Opn} (h : right 0 l = true) {i j : Nat} {x y : Opn} (hx : l[i]? = some x) (hy : l[j]? = some y) (he : x.1 = y.1) : x = y := by
  have key:∀ (l:List Opn) (t:Int),right t l = true->∀ (i j:Nat) (x y:Opn),i < j->l[i]? = some x->l[j]? = some y->x.1 < y.1:=by
    intro l
    induction l with
    | nil=>intro t _ i j x y _ hx;simp at hx
    | cons z r ih =>
      intro t h i j x y hij hx hy;simp [right] at h
      cases j with
      | zero=>omega
      | succ j =>
        cases i with
        | zero =>
          simp at hx;subst hx;have:=right_all r _ h.2 j y (by simpa using hy);omega
        | succ i=>exact ih _ h.2 i j x y (by omega) (by simpa using hx) (by simpa using hy)
  rcases Nat.lt_trichotomy i j with hl | hl | hl
  · have := key l 0 h i j x y hl hx hy
    omega
  · subst hl
    rw [hx] at hy
    cases hy
    rfl
  · have := key l 0 h j i y x hl hy hx
    omega
theorem least_low {l:List Opn} {j:Nat} (h:j < least 0 l):∃ x,l[j]? = some x/\x.1 = (j:Int):=by
  obtain ⟨x,h1,h2⟩:=(least_all l 0).2.2.1 j (by omega);exact ⟨x,h1,by rw [h2];congr 1;omega⟩
theorem least_high {l:List Opn} (hr:right 0 l = true) {j:Nat} {x:Opn} (h:least 0 l<=j) (hx:l[j]? = some x):(least 0 l:Int) < x.1:=by
  have h1:=(right_all l 0 hr j x hx).1
  by_cases e:j = least 0 l
  · have := (least_all l 0).2.2.2 x (by rw [Nat.sub_zero, ← e]; exact hx)
    omega
  · omega
theorem low_fd {l:List Opn} {x:Opn} {j:Nat} (hj:j < least 0 l) (hx:l[j]? = some x):x.1 = (j:Int):=by
  obtain ⟨y,h1,h2⟩:=least_low hj;rw [hx] at h1
  cases h1
  exact h2
theorem without_one {l : List Opn} (hr : right 0 l = true) {c fd : Int} {x : Opn} (h : l.find? (mine c fd) = some x) : without l [x] = l.filter fun y => !(mine c fd y) := by
  have hm:=List.find?_some h;have hx:=List.mem_of_find?_eq_some h;unfold without;refine List.filter_congr fun y hy=>?_
  simp only [List.mem_singleton]
  by_cases e:y = x
  · subst e
    simp [hm]
  · have : mine c fd y = false := by
      cases hy':mine c fd y
      · rfl
      · refine absurd ?_ e
        obtain ⟨i,hi⟩:=List.mem_iff_getElem?.1 hx;obtain ⟨j,hj⟩:=List.mem_iff_getElem?.1 hy;simp [mine] at hm hy';exact right_one hr hj hi (by omega)
    simp [e,this]
theorem mine_one {l:List Opn} (hr:right 0 l = true) {c fd:Int} {x y:Opn} (hx:x∈l) (hy:y∈l) (h1:mine c fd x = true) (h2:mine c fd y = true):x = y:=by
  obtain ⟨i,hi⟩:=List.mem_iff_getElem?.1 hx;obtain ⟨j,hj⟩:=List.mem_iff_getElem?.1 hy;simp [mine] at h1 h2;exact right_one hr hi hj (by omega)
end Op
end Go.Proofs.YtneojimodomohaaGreat.Os
namespace Go.Proofs.YtneojimodomohaaGreat
open Go.ChangeShapes Go.WideShapes Go.ChangeAt Go.RowKit Go.Deep
namespace Fo
theorem right_0:Right [] 0:=⟨by decide,fun i h=>by simp at h,List.nodup_nil⟩
end Fo
theorem rname_any (s:ByteArray) (w:World) (hm:s.size<=maxLen):Calls Tryz.prog 140 #[.string s] w fun e w'=>e = .returned (.int .i64 (Nm.err s))/\w' = w:=by
 unfold maxLen at hm
 by_cases h1:s.size < 1
 ·have H:Hid (Nm.err s = 409):=Nm.err_no fun h=>by have:=h.1;omega
  rw [H.out];have h1':(s.size:Int) < 1:=by omega
  go_enter Tryz.func140,Tryz.ntmps140;go_wp2;go_ret;exact ⟨rfl,rfl⟩
 by_cases h2:32 < s.size
 ·have H:Hid (Nm.err s = 409):=Nm.err_no fun h=>by have:=h.2.1;omega
  rw [H.out];have h1':¬ (s.size:Int) < 1:=by omega
  have h2':(32:Int) < (s.size:Int):=by omega
  go_enter Tryz.func140,Tryz.ntmps140;go_wp2;go_ret;exact ⟨rfl,rfl⟩
 by_cases h3:s = ⟨#[46]⟩
 ·have H:Hid _:=Nm.err_no fun h=>h.2.2.1 h3
  rw [H.out];subst h3;go_enter Tryz.func140,Tryz.ntmps140;go_wp2;go_ret;exact ⟨rfl,rfl⟩
 by_cases h4:s = ⟨#[46,46]⟩
 ·have H:Hid _:=Nm.err_no fun h=>h.2.2.2.1 h4
  rw [H.out];subst h4;go_enter Tryz.func140,Tryz.ntmps140;go_wp2;go_ret;exact ⟨rfl,rfl⟩
 have H2:Hid (1<=s.size/\s.size<=32/\s≠⟨#[46]⟩/\s≠⟨#[46,46]⟩):=⟨by omega,by omega,h3,h4⟩;have e2:(s.toList == [46]) = false:=beq_eq_false_iff_ne.2 (toList_ne h3);have e3:(s.toList == [46,46]) = false:=beq_eq_false_iff_ne.2 (toList_ne h4);have g1:¬ (s.size:Int) < 1:=by omega
 have g2:¬ (32:Int) < (s.size:Int):=by omega
 clear h1 h2 h3 h4;go_enter Tryz.func140,Tryz.ntmps140;go_wp2;go_loopw [3] (fun i wr=>∃ k:Nat,k<=s.size/\i = .int .i64 k/\wr = w/\Hid (Nm.clean s k)) (fun i _=>s.size - (intOf i).toNat)
 case atStart=>exact ⟨0,Nat.zero_le _,rfl,rfl,Nm.clean_zero s⟩
 case round =>
  obtain ⟨k,hk,rfl,rfl,HC⟩:=hrel
  by_cases hlt:k < s.size
  ·have hlt':(k:Int) < (s.size:Int):=by omega
   obtain ⟨c,hc⟩:=qE (s[k]'hlt)
   by_cases c1:c.toNat = 47
   ·have H:Hid _:=Nm.err_no (Nm.clean_bad hlt (.inl (by rw [hc];exact c1)));have c1':((c.toNat:Int) == 47) = true:=by simp [c1]
    go_wp2;go_ret;rw [H.out];exact ⟨rfl,rfl⟩
   ·have c1':((c.toNat:Int) == 47) = false:=beq_eq_false_iff_ne.2 (by omega)
    by_cases c0:c.toNat = 0
    ·have H:Hid _:=Nm.err_no (Nm.clean_bad hlt (.inr (by rw [hc];exact c0)));have c0':((c.toNat:Int) == 0) = true:=by simp [c0]
     go_wp2;go_ret;rw [H.out];exact ⟨rfl,rfl⟩
    ·have c0':((c.toNat:Int) == 0) = false:=beq_eq_false_iff_ne.2 (by omega);have HC2:Hid _:=Nm.clean_succ hlt HC.out (by rw [hc];exact c1) (by rw [hc];exact c0);go_wp2
     go_roundw
     case rel=>exact ⟨k + 1,by omega,by go_num,trivial,HC2⟩
     case measure=>simp [intOf];omega
  ·have H:Hid (Nm.err s = 0):=Nm.err_ok ⟨H2.out.1,H2.out.2.1,H2.out.2.2.1,H2.out.2.2.2,by
    have:=HC.out
    rwa [show k = s.size by omega] at this⟩
   have hlt':¬ (k:Int) < (s.size:Int):=by omega
   go_wp2;go_ret;rw [H.out];exact ⟨rfl,rfl⟩
theorem rto_any (no gen:Int) (w:World):Calls Tryz.prog 89 #[VHf no gen] w fun e w'=>e = .returned (.bool (decide (Ho no gen)))/\w' = w.alloc (BHf no gen):=by
 by_cases h1:0<=no
 ·by_cases h2:no < 24
  ·by_cases h3:1<=gen
   ·by_cases h4:gen<=1099511627776
    ·rw [decide_eq_true (show Ho no gen from ⟨⟨h1,by omega⟩,h3,h4⟩)];go_enter Tryz.func89,Tryz.ntmps89;go_wp2;go_ret;exact ⟨rfl,rfl⟩
    ·rw [decide_eq_false (show ¬ Ho no gen from fun h=>h4 h.2.2)];go_enter Tryz.func89,Tryz.ntmps89;go_wp2;go_ret;exact ⟨rfl,rfl⟩
   ·rw [decide_eq_false (show ¬ Ho no gen from fun h=>h3 h.2.1)];go_enter Tryz.func89,Tryz.ntmps89;go_wp2;go_ret;exact ⟨rfl,rfl⟩
  ·rw [decide_eq_false (show ¬ Ho no gen from fun h=>h2 (by have:=h.1.2;omega))];go_enter Tryz.func89,Tryz.ntmps89;go_wp2;go_ret;exact ⟨rfl,rfl⟩
 ·rw [decide_eq_false (show ¬ Ho no gen from fun h=>h1 h.1.1)];go_enter Tryz.func89,Tryz.ntmps89;go_wp2;go_ret;exact ⟨rfl,rfl⟩
theorem rplace_any (v:Value) (l:List Ent) (s:ByteArray) (w:World) (hv:AtW EE w v l) :
  Calls Tryz.prog 141 #[v,.string s] w fun e w'=>e = .returned (.int .i64 (Fo.at' (Fo.called s) l))/\Bw w w':=by
 obtain ⟨ao,cap,rfl,hm,hx⟩:=hv.open;clear hv;unfold maxLen at hm;obtain ⟨n,hn⟩:=qE l.length;rw [hn] at hm ⊢;have HN:Hid _:=hn;have HX:Hid _:=hx;clear hn hx;go_enter Tryz.func141,Tryz.ntmps141;go_wp2;go_loopw [9] (fun i wr=>∃ k:Nat,k<=n/\i = .int .i64 k/\Hid (∀ j y,j < k->l[j]? = some y->Fo.called s y = false)/\Hid (Bw w wr)) (fun i _=>n - (intOf i).toNat)
 case atStart=>exact ⟨0,Nat.zero_le _,rfl,fun j y hj=>by omega,Below.refl _ _⟩
 case round =>
  obtain ⟨k,hk,rfl,HP,HB⟩:=hrel
  by_cases hlt:k < n
  ·obtain ⟨x,hxk⟩:∃ x,l[k]? = some x:=⟨_,List.getElem?_eq_getElem (by rw [HN.out];exact hlt)⟩;have HXK:Hid _:=hxk;obtain ⟨b2,off,rfl,-,hB,hcx⟩:=HX.out k x hxk;have a:=fun j u hj=>(HB.out.cell (p:=⟨b2,off + (k * EE.sz + j),none⟩) hB).trans (hcx j u hj)
   have c0:wr.cell? ⟨b2,off + k * 4,none⟩ = some (.string x.1):=a 0 _ rfl;have c1:wr.cell? ⟨b2,off + k * 4 + 1,none⟩ = some (.int .i64 x.2.1):=a 1 _ rfl;have c2:wr.cell? ⟨b2,off + k * 4 + 2,none⟩ = some (.int .i64 x.2.2.1):=a 2 _ rfl;have c3:wr.cell? ⟨b2,off + k * 4 + 3,none⟩ = some (.int .i64 x.2.2.2):=a 3 _ rfl;have hsz:=HB.out.size;clear a hcx hxk;have hlt':(k:Int) < (n:Int):=by omega
   cases hp:Fo.called s x with
   | true =>
    have HA:Hid _:=Fo.at_hit HXK.out hp HP.out;have ht:(x.1.toList == s.toList) = true:=hp;clear hp;go_wp2;go_ret;rw [HA.out];exact ⟨rfl,HB.out.alloc hsz _⟩
   | false =>
    have HP2:Hid (∀ j y,j < k + 1->l[j]? = some y->Fo.called s y = false):=fun j y hj hy=>by
     by_cases e:j = k
     ·subst e;rw [HXK.out] at hy
      cases hy
      exact hp
     ·exact HP.out j y (by omega) hy
    have ht:(x.1.toList == s.toList) = false:=hp;clear hp;go_wp2
    go_roundw
    case rel=>exact ⟨k + 1,by omega,by go_num,HP2,HB.out.alloc hsz _⟩
    case measure=>simp [intOf];omega
  ·obtain rfl:k = n:=by omega
   have HA:Hid _:=Fo.at_miss fun j y hj=>HP.out j y (by rw [← HN.out];exact hj)
   go_wp2;go_ret;rw [HA.out];exact ⟨rfl,HB.out⟩
end Go.Proofs.YtneojimodomohaaGreat
