/- RefOne, RefA, SRef1, Chk, OPlain, as one. -/
import Derived.Test.YtggoccfddnpelaaGreatR8
import Derived.Test.YtggoccfddnpelaaGreatR9
namespace Go.Proofs.YtggoccfddnpelaaGreat
open Go.ChangeShapes Go.WideShapes Go.ChangeAt Go.RowKit Go.Deep It
set_option maxRecDepth 100000
theorem Bl.mem_end {l:List Bl.R}:∀ {a:Int},Bl.right a l->∀ r∈l,r.1 + r.2.size<=Bl.lastEnd a l:=by
  induction l with
  | nil=>intro a _ r hr;cases hr
  | cons s l ih =>
    intro a h r hr
    rcases List.mem_cons.1 hr with rfl | hr
    · exact Bl.right_lastEnd h.2
    · exact ih h.2 r hr
theorem Bl.end_le {l:List Bl.R} (h:Bl.right (-1) l) {s:Int} (hs:0<=s):Bl.endOf l<=s ↔ ∀ r∈l,r.1 + r.2.size<=s:=by
  unfold Bl.endOf
  rw [if_pos h]
  rcases Bl.snoc_cases l with rfl | ⟨m,r,rfl⟩
  · exact ⟨fun _ r hr=>(by cases hr),fun _=>hs⟩
  · have he : Bl.lastEnd 0 (m ++ [r]) = r.1 + r.2.size := by rw [Bl.lastEnd_append]; rfl
    have he':Bl.lastEnd (-1) (m ++ [r]) = r.1 + r.2.size:=by rw [Bl.lastEnd_append];rfl
    rw [he]
    constructor
    · intro h1 q hq
      have:=Bl.mem_end h q hq
      rw [he'] at this
      omega
    · intro h1
      exact h1 r (by simp)
set_option maxHeartbeats 1000000 in
theorem rone_lo (g k l s t nx:Int) (rp ep:Option Addr) (rn rc en ec:Nat) (w:World) (hg:g < 1) :
    Calls Tryz.prog 142 #[.agg #[.int .i64 g,.int .i64 k,.int .i64 l,.int .i64 s,.int .i64 t,.slice rp rn rc,.slice ep en ec,.int .i64 nx]] w fun e w'=>e = .returned (.bool false)/\Below w.heap.size w w':=by
  go_enter Tryz.func142,Tryz.ntmps142
  go_wp2
  go_ret
  exact ⟨rfl,(Below.refl _ w).alloc (Nat.le_refl _) _⟩
set_option maxHeartbeats 1000000 in
theorem rone_hi (g k l s t nx:Int) (rp ep:Option Addr) (rn rc en ec:Nat) (w:World) (hg0:¬ g < 1) (hg:1099511627776 < g) :
    Calls Tryz.prog 142 #[.agg #[.int .i64 g,.int .i64 k,.int .i64 l,.int .i64 s,.int .i64 t,.slice rp rn rc,.slice ep en ec,.int .i64 nx]] w fun e w'=>e = .returned (.bool false)/\Below w.heap.size w w':=by
  go_enter Tryz.func142,Tryz.ntmps142
  go_wp2
  go_ret
  exact ⟨rfl,(Below.refl _ w).alloc (Nat.le_refl _) _⟩
set_option maxHeartbeats 1000000 in
theorem rone_attr (g k l s t nx:Int) (rp ep:Option Addr) (rn rc en ec:Nat) (w:World) (hg:1<=g/\g<=1099511627776) (ha:At.right k l s t = false) :
    Calls Tryz.prog 142 #[.agg #[.int .i64 g,.int .i64 k,.int .i64 l,.int .i64 s,.int .i64 t,.slice rp rn rc,.slice ep en ec,.int .i64 nx]] w fun e w'=>e = .returned (.bool false)/\Below w.heap.size w w':=by
  have HA:Hid (At.right k l s t = false):=ha
  have hg1:¬ g < 1:=by omega
  have hg2:¬ 1099511627776 < g:=by omega
  clear hg ha
  go_enter Tryz.func142,Tryz.ntmps142
  go_wp2_with fail
  refine (aright_any _ _ _ _ _).mono ?_
  rintro e w' ⟨rfl,rfl⟩
  rw [HA.out]
  go_wp2
  go_ret
  exact ⟨rfl,((Below.refl _ w).alloc (Nat.le_refl _) _).alloc (by simp) _⟩
set_option maxHeartbeats 1000000 in
theorem rone_dir (g l s t nx:Int) (rp ep:Option Addr) (rn rc en ec:Nat) (w:World) (hg:1<=g/\g<=1099511627776) (ha:At.right 2 l s t = true) :
    Calls Tryz.prog 142 #[.agg #[.int .i64 g,.int .i64 2,.int .i64 l,.int .i64 s,.int .i64 t,.slice rp rn rc,.slice ep en ec,.int .i64 nx]] w fun e w'=>e = .returned (.bool (decide (rn = 0)))/\Below w.heap.size w w':=by
  have HA:Hid (At.right 2 l s t = true):=ha
  have hg1:¬ g < 1:=by omega
  have hg2:¬ 1099511627776 < g:=by omega
  clear hg ha
  by_cases hr:rn = 0
  · have hr' : ¬ (0 : Int) < (rn : Int) := by omega
    rw [decide_eq_true hr]
    clear hr
    go_enter Tryz.func142,Tryz.ntmps142
    go_wp2_with fail
    refine (aright_any _ _ _ _ _).mono ?_
    rintro e w' ⟨rfl,rfl⟩
    rw [HA.out]
    go_wp2
    go_ret
    exact ⟨rfl,((Below.refl _ w).alloc (Nat.le_refl _) _).alloc (by simp) _⟩
  · have hr' : (0 : Int) < (rn : Int) := by omega
    rw [decide_eq_false hr]
    clear hr
    go_enter Tryz.func142,Tryz.ntmps142
    go_wp2_with fail
    refine (aright_any _ _ _ _ _).mono ?_
    rintro e w' ⟨rfl,rfl⟩
    rw [HA.out]
    go_wp2
    go_ret
    exact ⟨rfl,((Below.refl _ w).alloc (Nat.le_refl _) _).alloc (by simp) _⟩
set_option maxHeartbeats 1000000 in
theorem rone_free (g l s t nx : Int) (rp ep : Option Addr) (rn rc en ec : Nat) (w : World) (hg : 1 ≤ g ∧ g ≤ 1099511627776) (ha : At.right 0 l s t = true) :
    Calls Tryz.prog 142 #[.agg #[.int .i64 g,.int .i64 0,.int .i64 l,.int .i64 s,.int .i64 t,.slice rp rn rc,.slice ep en ec,.int .i64 nx]] w fun e w'=>e = .returned (.bool (decide (en = 0) && decide (nx = 0) && decide (rn = 0)))/\Below w.heap.size w w':=by
  have HA:Hid (At.right 0 l s t = true):=ha
  have hg1:¬ g < 1:=by omega
  have hg2:¬ 1099511627776 < g:=by omega
  clear hg ha
  by_cases hr:rn = 0
  · have hr' : ¬ (0 : Int) < (rn : Int) := by omega
    rw [decide_eq_true hr,Bool.and_true]
    clear hr
    by_cases he:en = 0
    · have he' : ¬ (0 : Int) < (en : Int) := by omega
      rw [decide_eq_true he,Bool.true_and]
      clear he
      by_cases hn:nx = 0
      · have hn' : (nx != 0) = false := by simp [hn]
        rw [decide_eq_true hn]
        clear hn
        go_enter Tryz.func142,Tryz.ntmps142
        go_wp2_with fail
        refine (aright_any _ _ _ _ _).mono ?_
        rintro e w' ⟨rfl,rfl⟩
        rw [HA.out]
        go_wp2
        go_ret
        exact ⟨rfl,((Below.refl _ w).alloc (Nat.le_refl _) _).alloc (by simp) _⟩
      · have hn' : (nx != 0) = true := by simp [hn]
        rw [decide_eq_false hn]
        clear hn
        go_enter Tryz.func142,Tryz.ntmps142
        go_wp2_with fail
        refine (aright_any _ _ _ _ _).mono ?_
        rintro e w' ⟨rfl,rfl⟩
        rw [HA.out]
        go_wp2
        go_ret
        exact ⟨rfl,((Below.refl _ w).alloc (Nat.le_refl _) _).alloc (by simp) _⟩
    · have he' : (0 : Int) < (en : Int) := by omega
      rw [decide_eq_false he,Bool.false_and]
      clear he
      go_enter Tryz.func142,Tryz.ntmps142
      go_wp2_with fail
      refine (aright_any _ _ _ _ _).mono ?_
      rintro e w' ⟨rfl,rfl⟩
      rw [HA.out]
      go_wp2
      go_ret
      exact ⟨rfl,((Below.refl _ w).alloc (Nat.le_refl _) _).alloc (by simp) _⟩
  · have hr' : (0 : Int) < (rn : Int) := by omega
    rw [decide_eq_false hr,Bool.and_false]
    clear hr
    go_enter Tryz.func142,Tryz.ntmps142
    go_wp2_with fail
    refine (aright_any _ _ _ _ _).mono ?_
    rintro e w' ⟨rfl,rfl⟩
    rw [HA.out]
    go_wp2
    go_ret
    exact ⟨rfl,((Below.refl _ w).alloc (Nat.le_refl _) _).alloc (by simp) _⟩
set_option maxHeartbeats 1000000 in
theorem rone_fileno (g l s t nx:Int) (rp ep:Option Addr) (rn rc en ec:Nat) (w:World) (hg:1<=g/\g<=1099511627776) (ha:At.right 1 l s t = true) (hb:¬ (en = 0/\nx = 0)) :
    Calls Tryz.prog 142 #[.agg #[.int .i64 g,.int .i64 1,.int .i64 l,.int .i64 s,.int .i64 t,.slice rp rn rc,.slice ep en ec,.int .i64 nx]] w fun e w'=>e = .returned (.bool false)/\Below w.heap.size w w':=by
  have HA:Hid (At.right 1 l s t = true):=ha
  have hg1:¬ g < 1:=by omega
  have hg2:¬ 1099511627776 < g:=by omega
  clear hg ha
  by_cases he:en = 0
  · have he' : ¬ (0 : Int) < (en : Int) := by omega
    have hn':(nx != 0) = true:=by
      simp
      intro h
      exact hb ⟨he,h⟩
    clear he hb
    go_enter Tryz.func142,Tryz.ntmps142
    go_wp2_with fail
    refine (aright_any _ _ _ _ _).mono ?_
    rintro e w' ⟨rfl,rfl⟩
    rw [HA.out]
    go_wp2
    go_ret
    exact ⟨rfl,((Below.refl _ w).alloc (Nat.le_refl _) _).alloc (by simp) _⟩
  · have he' : (0 : Int) < (en : Int) := by omega
    clear he hb
    go_enter Tryz.func142,Tryz.ntmps142
    go_wp2_with fail
    refine (aright_any _ _ _ _ _).mono ?_
    rintro e w' ⟨rfl,rfl⟩
    rw [HA.out]
    go_wp2
    go_ret
    exact ⟨rfl,((Below.refl _ w).alloc (Nat.le_refl _) _).alloc (by simp) _⟩
set_option maxHeartbeats 1000000 in
theorem rone_filebad (g l s t:Int) (rp ep:Option Addr) (rn rc ec:Nat) (w:World) (hg:1<=g/\g<=1099511627776) (ha:At.right 1 l s t = true) (rs:List (Int × ByteArray)) (hr:AtW ER w (.slice rp rn rc) rs) (ho:okFields rs) (hq:¬ Bl.right (-1) rs) :
    Calls Tryz.prog 142 #[.agg #[.int .i64 g,.int .i64 1,.int .i64 l,.int .i64 s,.int .i64 t,.slice rp rn rc,.slice ep 0 ec,.int .i64 0]] w fun e w'=>e = .returned (.bool false)/\Below w.heap.size w w':=by
  have hw:Below w.heap.size w ((w.alloc (.cells #[.int .i64 g,.int .i64 1,.int .i64 l,.int .i64 s,.int .i64 t,.slice rp rn rc,.slice ep 0 ec,.int .i64 0] 52)).alloc (BA 1 l s t)):=((Below.refl _ w).alloc (Nat.le_refl _) _).alloc (by simp) _
  have HF:Hid (FieldsAt ((w.alloc (.cells #[.int .i64 g,.int .i64 1,.int .i64 l,.int .i64 s,.int .i64 t,.slice rp rn rc,.slice ep 0 ec,.int .i64 0] 52)).alloc (BA 1 l s t)).heap.size ((w.alloc (.cells #[.int .i64 g,.int .i64 1,.int .i64 l,.int .i64 s,.int .i64 t,.slice rp rn rc,.slice ep 0 ec,.int .i64 0] 52)).alloc (BA 1 l s t)) (.slice rp rn rc) rs):=(hr.up hw).fields
  have HO:Hid (okFields rs):=ho
  have HW:Hid (Below w.heap.size w ((w.alloc (.cells #[.int .i64 g,.int .i64 1,.int .i64 l,.int .i64 s,.int .i64 t,.slice rp rn rc,.slice ep 0 ec,.int .i64 0] 52)).alloc (BA 1 l s t))):=hw
  have HA8:Hid (((w.alloc (.cells #[.int .i64 g,.int .i64 1,.int .i64 l,.int .i64 s,.int .i64 t,.slice rp rn rc,.slice ep 0 ec,.int .i64 0] 52)).alloc (BA 1 l s t)).heap[w.heap.size]? = some (.cells #[.int .i64 g,.int .i64 1,.int .i64 l,.int .i64 s,.int .i64 t,.slice rp rn rc,.slice ep 0 ec,.int .i64 0] 52 (0,0))):=(Below.heap_alloc _ _ _ (by simp)).trans (heap_alloc_new _ _)
  have HA:Hid (At.right 1 l s t = true):=ha
  have hg1:¬ g < 1:=by omega
  have hg2:¬ 1099511627776 < g:=by omega
  clear hg ha
  have HQ:Hid (decide (Bl.right (-1) rs) = false):=decide_eq_false hq
  clear hr ho hq hw
  go_enter Tryz.func142,Tryz.ntmps142
  go_wp2_with fail
  refine (aright_any _ _ _ _ _).mono ?_
  rintro e w' ⟨rfl,rfl⟩
  rw [HA.out]
  go_wp2_with fail
  refine (bright_any _ rs _ HF.out HO.out).mono ?_
  rintro e w2 ⟨rfl,hb2⟩
  rw [HQ.out]
  have HB2:Hid (Below w.heap.size w w2):=HW.out.trans (hb2.mono HW.out.size)
  clear hb2
  go_wp2
  go_ret
  exact ⟨rfl,HB2.out⟩
set_option maxHeartbeats 1000000 in
theorem rone_file (g l s t : Int) (rp ep : Option Addr) (rn rc ec : Nat) (w : World) (hg : 1 ≤ g ∧ g ≤ 1099511627776) (ha : At.right 1 l s t = true) (rs : List (Int × ByteArray)) (hr : AtW ER w (.slice rp rn rc) rs) (ho : okFields rs) (hq : Bl.right (-1) rs) :
    Calls Tryz.prog 142 #[.agg #[.int .i64 g,.int .i64 1,.int .i64 l,.int .i64 s,.int .i64 t,.slice rp rn rc,.slice ep 0 ec,.int .i64 0]] w fun e w'=>e = .returned (.bool (decide (∀ r∈rs,r.1 + r.2.size<=s)))/\Below w.heap.size w w':=by
  have hw:Below w.heap.size w ((w.alloc (.cells #[.int .i64 g,.int .i64 1,.int .i64 l,.int .i64 s,.int .i64 t,.slice rp rn rc,.slice ep 0 ec,.int .i64 0] 52)).alloc (BA 1 l s t)):=((Below.refl _ w).alloc (Nat.le_refl _) _).alloc (by simp) _
  have HF:Hid (FieldsAt ((w.alloc (.cells #[.int .i64 g,.int .i64 1,.int .i64 l,.int .i64 s,.int .i64 t,.slice rp rn rc,.slice ep 0 ec,.int .i64 0] 52)).alloc (BA 1 l s t)).heap.size ((w.alloc (.cells #[.int .i64 g,.int .i64 1,.int .i64 l,.int .i64 s,.int .i64 t,.slice rp rn rc,.slice ep 0 ec,.int .i64 0] 52)).alloc (BA 1 l s t)) (.slice rp rn rc) rs):=(hr.up hw).fields
  have HO:Hid (okFields rs):=ho
  have HW:Hid (Below w.heap.size w ((w.alloc (.cells #[.int .i64 g,.int .i64 1,.int .i64 l,.int .i64 s,.int .i64 t,.slice rp rn rc,.slice ep 0 ec,.int .i64 0] 52)).alloc (BA 1 l s t))):=hw
  have HA8:Hid (((w.alloc (.cells #[.int .i64 g,.int .i64 1,.int .i64 l,.int .i64 s,.int .i64 t,.slice rp rn rc,.slice ep 0 ec,.int .i64 0] 52)).alloc (BA 1 l s t)).heap[w.heap.size]? = some (.cells #[.int .i64 g,.int .i64 1,.int .i64 l,.int .i64 s,.int .i64 t,.slice rp rn rc,.slice ep 0 ec,.int .i64 0] 52 (0,0))):=(Below.heap_alloc _ _ _ (by simp)).trans (heap_alloc_new _ _)
  have HA:Hid (At.right 1 l s t = true):=ha
  have hg1:¬ g < 1:=by omega
  have hg2:¬ 1099511627776 < g:=by omega
  clear hg ha
  have HQ:Hid (decide (Bl.right (-1) rs) = true):=decide_eq_true hq
  have HQR:Hid (∀ r∈rs,-1 < r.1/\r.1 + r.2.size<=1048576):=fun r hr=>by
    have:=Bl.right_mem hq r hr
    exact ⟨this.2.1,this.2.2⟩
  obtain ⟨res,hres⟩:∃ res,decide (∀ r∈rs,r.1 + r.2.size<=s) = res:=⟨_,rfl⟩
  have HRES:Hid (decide (∀ r∈rs,r.1 + r.2.size<=s) = res):=hres
  rw [hres]
  obtain ⟨hlen,_⟩:rn = rs.length/\True:=by
    obtain ⟨_,_,h1,_⟩:=hr.open
    simp only [Value.slice.injEq] at h1
    exact ⟨h1.2.1,trivial⟩
  have HLN:Hid (rn = rs.length):=hlen
  have hrn:rn<=9223372036854775807:=by
    obtain ⟨_,_,_,h2,_⟩:=hr.open
    unfold maxLen at h2
    omega
  clear hr ho hq hw hres hlen
  go_enter Tryz.func142,Tryz.ntmps142
  go_wp2_with fail
  refine (aright_any _ _ _ _ _).mono ?_
  rintro e w' ⟨rfl,rfl⟩
  rw [HA.out]
  go_wp2_with fail
  refine (bright_any _ rs _ HF.out HO.out).mono ?_
  rintro e w2 ⟨rfl,hb2⟩
  rw [HQ.out]
  have HB2:Hid (Below w.heap.size w w2):=HW.out.trans (hb2.mono HW.out.size)
  have HA2:Hid (w2.heap[w.heap.size]? = some (.cells #[.int .i64 g,.int .i64 1,.int .i64 l,.int .i64 s,.int .i64 t,.slice rp rn rc,.slice ep 0 ec,.int .i64 0] 52 (0,0))):=(hb2.block _ (by simp;omega)).trans HA8.out
  have hF2:=HF.out.up hb2
  obtain ⟨ao',cap',hv',_,hx⟩:=hF2.open
  simp only [Value.slice.injEq] at hv'
  obtain ⟨rfl,-,rfl⟩:=hv'
  have HX:Hid (∀ j,j < rs.length->∃ b off,rp = some ⟨b,off,none⟩/\b < w2.heap.size/\w2.cell? ⟨b,off + j * 2,none⟩ = some (.int .i64 (rs.getD j (0,.empty)).1)/\w2.cell? ⟨b,off + j * 2 + 1,none⟩ = some (.string (rs.getD j (0,.empty)).2)):=hx
  have c5:w2.cell? ⟨w.heap.size,5,none⟩ = some (.slice rp rn rc):=by simp [World.cell?,HA2.out]
  have HC3:Hid (w2.cell? ⟨w.heap.size,3,none⟩ = some (.int .i64 s)):=by show w2.cell? _ = _;simp [World.cell?,HA2.out]
  have hws:w.heap.size < w2.heap.size:=(Array.getElem?_eq_some_iff.1 HA2.out).1
  clear hb2 hx hF2
  go_wp2
  go_loopw [55] (fun i wr=>∃ k:Nat,k<=rn/\i = .int .i64 k/\(∀ r∈rs.take k,r.1 + r.2.size<=s)/\Below w2.heap.size w2 wr) (fun i _=>rn - (intOf i).toNat)
  case atStart=>exact ⟨0,Nat.zero_le _,rfl,by simp,Below.refl _ _⟩
  case round =>
    obtain ⟨k,hk,rfl,hall,hbl⟩:=hrel
    have HALL:Hid (∀ r∈rs.take k,r.1 + r.2.size<=s):=hall
    have hsz:=hbl.size
    clear hall
    by_cases hlt:k < rn
    · obtain ⟨b, off, rfl, hB, c0, c1⟩ := HX.out k (by rw [← HLN.out]; exact hlt)
      have hk':k < rs.length:=by rw [← HLN.out];exact hlt
      have hget:rs[k]? = some (rs.getD k (0,.empty)):=by simp [List.getD,hk']
      rw [← hbl.cell (p:=⟨b,off + k * 2,none⟩) hB] at c0
      rw [← hbl.cell (p:=⟨b,off + k * 2 + 1,none⟩) hB] at c1
      have HT:=It.take_succ hget
      have hmem:=List.mem_of_getElem? hget
      have hbd:=HQR.out _ hmem
      generalize rs.getD k (0,.empty) = x at c0 c1 HT hbd hmem hget
      obtain ⟨xa,xs⟩:=x
      simp only at c0 c1 hbd
      obtain ⟨hb0,hb1⟩:=hbd
      have HTT:Hid (rs.take (k + 1) = rs.take k ++ [(xa,xs)]/\(xa,xs)∈rs):=⟨HT,hmem⟩
      have d3:(wr.alloc (.cells #[.int .i64 xa,.string xs] 67)).cell? ⟨w.heap.size,3,none⟩ = some (.int .i64 s):=by
        rw [World.cell?_alloc_lt _ _ _ (by show w.heap.size < _;omega)]
        exact (hbl.cell (p:=⟨w.heap.size,3,none⟩) hws).trans HC3.out
      have hlt':(k:Int) < (rn:Int):=by omega
      clear HT hmem hget hB
      by_cases hc:s < xa + (xs.size:Int)
      · have H : Hid (res = false) := by
          show res = false
          rw [← HRES.out]
          apply decide_eq_false
          intro h
          have:=h _ HTT.out.2
          simp only at this
          omega
        go_wp2
        go_ret
        rw [H.out]
        exact ⟨rfl,(HB2.out.trans (hbl.mono HB2.out.size)).alloc (by have:=HB2.out.size;omega) _⟩
      · go_wp2
        go_roundw
        case rel =>
          refine ⟨k + 1,by omega,by go_num,fun r hr=>?_,hbl.alloc hsz _⟩
          rw [HTT.out.1,List.mem_append] at hr
          rcases hr with hr | hr
          · exact HALL.out r hr
          · simp at hr
            subst hr
            simp only
            omega
        case measure=>simp [intOf];omega
    · obtain rfl : k = rn := by omega
      have H:Hid (res = true):=by
        show res = true
        rw [← HRES.out]
        apply decide_eq_true
        have:=HALL.out
        rwa [HLN.out,List.take_length] at this
      go_wp2
      go_ret
      rw [H.out]
      exact ⟨rfl,HB2.out.trans (hbl.mono HB2.out.size)⟩
theorem rone_any {S : Nat → Prop} (x : Rw) (w : World) (h : Good S w x) : Calls Tryz.prog 142 #[VI x] w fun e w' => e = .returned (.bool (one x.i)) ∧ Below w.heap.size w w' := by
  obtain ⟨hrn,hen⟩:=h.len
  obtain ⟨hr,_,ho,_⟩:=h
  obtain ⟨⟨g,k,l,s,t,rs,es,nx⟩,rp,rn,rc,ep,en,ec⟩:=x
  simp only at hrn hen hr ho ⊢
  by_cases hg:1<=g/\g<=1099511627776
  · cases ha : At.right k l s t with
    | false =>
      rw [one_attr ha]
      exact rone_attr g k l s t nx rp ep rn rc en ec w hg ha
    | true =>
      rcases kind_bd ha with rfl | rfl | rfl
      · rw [one_free hg ha, isEmpty_len es hen, isEmpty_len rs hrn]
        exact rone_free g l s t nx rp ep rn rc en ec w hg ha
      · rw [one_file hg ha, isEmpty_len es hen]
        by_cases hb:en = 0/\nx = 0
        · rw [decide_eq_true hb.1, decide_eq_true hb.2]
          obtain ⟨rfl,rfl⟩:=hb
          by_cases hq:Bl.right (-1) rs
          · have hs0 : 0 ≤ s := by
              rcases At.right_iff.1 ha with h | h
              · omega
              · exact h.1.1
            have e:decide (Bl.endOf rs<=s) = decide (∀ r∈rs,r.1 + r.2.size<=s):=decide_eq_decide.2 (Bl.end_le hq hs0)
            rw [decide_eq_true hq,e]
            exact rone_file g l s t rp ep rn rc ec w hg ha rs hr.wide ho hq
          · rw [decide_eq_false hq]
            exact rone_filebad g l s t rp ep rn rc ec w hg ha rs hr.wide ho hq
        · rw [show (decide (en = 0) && decide (nx = 0)) = false from by simpa using hb]
          exact rone_fileno g l s t nx rp ep rn rc en ec w hg ha hb
      · rw [one_dir hg ha, isEmpty_len rs hrn]
        exact rone_dir g l s t nx rp ep rn rc en ec w hg ha
  · rw [one_gen hg]
    by_cases h1:g < 1
    · exact rone_lo g k l s t nx rp ep rn rc en ec w h1
    · exact rone_hi g k l s t nx rp ep rn rc en ec w h1 (by omega)
theorem It.not_right {L:List Ino} (h:It.right L = true->False):It.right L = false:=by
  cases hr:It.right L with
  | false=>rfl
  | true=>exact absurd hr h
set_option maxHeartbeats 1000000 in
theorem rright_any {S : Nat → Prop} (v : Value) (L : List Rw) (w : World) (hv : TabAt S w v L) :
    Calls Tryz.prog 107 #[v] w fun e w'=>e = .returned (.bool (It.right (pl L)))/\Below w.heap.size w w':=by
  obtain ⟨ao,cap,rfl,hm,hx⟩:=hv.open
  clear hv
  unfold maxLen at hm
  obtain ⟨n,hn⟩:∃ n,L.length = n:=⟨_,rfl⟩
  rw [hn] at hm ⊢
  have HN:Hid (L.length = n):=hn
  have HX:Hid (∀ i x,L[i]? = some x->(∃ b off,ao = some ⟨b,off,none⟩/\b < w.heap.size/\eight w b (off + i * 8) x)/\Good S w x):=hx
  clear hn hx
  obtain ⟨res,hres⟩:∃ res,It.right (pl L) = res:=⟨_,rfl⟩
  have HRES:Hid (It.right (pl L) = res):=hres
  rw [hres]
  clear hres
  by_cases hr:1<=n/\n<=24
  · have h0 : L[0]? = some (L[0]'(by have := HN.out; omega)) := List.getElem?_eq_getElem _
    obtain ⟨x,hx0⟩:∃ x,L[0]? = some x:=⟨_,h0⟩
    clear h0
    obtain ⟨⟨b,off,rfl,hB,hc⟩,hg⟩:=HX.out 0 x hx0
    have c1:=hc.2.1
    simp only [Nat.zero_mul,Nat.add_zero] at c1
    have hn1:¬ (n:Int) < 1:=by omega
    have hn2:¬ (24:Int) < (n:Int):=by omega
    have hn0:(0:Int) < (n:Int):=by omega
    by_cases hk:x.i.kind = 2
    · have HR0 : Hid (rootB (pl L) = true) := by
        cases L with
        | nil=>simp at hx0
        | cons y l =>
          simp at hx0
          subst hx0
          exact decide_eq_true hk
      rw [hk] at c1
      clear hc hg hk
      go_enter Tryz.func107,Tryz.ntmps107
      go_wp2
      go_loopw [23] (fun i wr=>∃ k:Nat,k<=n/\i = .int .i64 k/\(∀ y∈L.take k,one y.i = true)/\Below w.heap.size w wr) (fun i _=>n - (intOf i).toNat)
      case atStart=>exact ⟨0,Nat.zero_le _,rfl,by simp,Below.refl _ _⟩
      case round =>
        obtain ⟨k,hk,rfl,hall,hbl⟩:=hrel
        have HALL:Hid (∀ y∈L.take k,one y.i = true):=hall
        clear hall
        have hsz:=hbl.size
        by_cases hlt:k < n
        · have h0 : L[k]? = some (L[k]'(by have := HN.out; omega)) := List.getElem?_eq_getElem _
          obtain ⟨y,hyk⟩:∃ y,L[k]? = some y:=⟨_,h0⟩
          clear h0
          obtain ⟨⟨b',off',hbe,hB',hc'⟩,hg'⟩:=HX.out k y hyk
          cases hbe
          obtain ⟨d0,d1,d2,d3,d4,d5,d6,d7⟩:=hc'.below hbl hB'
          have HGY:Hid (Good S wr y):=hg'.up hbl
          have HT:Hid (L.take (k + 1) = L.take k ++ [y]):=It.take_succ hyk
          have HMY:Hid (y∈L):=List.mem_of_getElem? hyk
          have hlt':(k:Int) < (n:Int):=by omega
          clear hyk hc' hg'
          go_wp2_with fail
          refine (rone_any y _ (HGY.out.up ((Below.refl _ _).alloc (Nat.le_refl _) _))).mono ?_
          rintro e w2 ⟨rfl,hb2⟩
          have HB2:Hid (Below w.heap.size w w2):=(hbl.alloc hsz _).trans (hb2.mono (by simp;omega))
          clear hb2
          cases ho:one y.i with
          | false =>
            have HE:Hid (res = false):=by
              show res = false
              rw [← HRES.out]
              exact It.not_right fun h=>by
                have:=(It.right_iff.1 h).2.2 y.i (List.mem_map.2 ⟨y,HMY.out,rfl⟩)
                rw [ho] at this
                cases this
            clear ho
            go_wp2
            go_ret
            rw [HE.out]
            exact ⟨rfl,HB2.out⟩
          | true =>
            have HO:Hid (one y.i = true):=ho
            clear ho
            go_wp2
            go_roundw
            case rel =>
              refine ⟨k + 1,by omega,by go_num,fun z hz=>?_,HB2.out⟩
              rw [HT.out,List.mem_append] at hz
              rcases hz with hz | hz
              · exact HALL.out z hz
              · simp at hz
                subst hz
                exact HO.out
            case measure=>simp [intOf];omega
        · obtain rfl : k = n := by omega
          have HE:Hid (res = true):=by
            show res = true
            rw [← HRES.out]
            refine It.right_iff.2 ⟨?_,HR0.out,fun z hz=>?_⟩
            · have := HN.out
              simp only [pl,List.length_map]
              omega
            · obtain ⟨y, hy, rfl⟩ := List.mem_map.1 hz
              refine HALL.out y ?_
              rw [← HN.out,List.take_length]
              exact hy
          go_wp2
          go_ret
          rw [HE.out]
          exact ⟨rfl,hbl⟩
    · have hk' : (x.i.kind != 2) = true := by simp [hk]
      have HE:Hid (res = false):=by
        show res = false
        rw [← HRES.out]
        exact It.not_right fun h=>by
          have:=(It.right_iff.1 h).2.1
          cases L with
          | nil=>simp at hx0
          | cons y l =>
            simp at hx0
            subst hx0
            exact hk (of_decide_eq_true this)
      clear hc hg hk
      go_enter Tryz.func107,Tryz.ntmps107
      go_wp2
      go_ret
      rw [HE.out]
      exact ⟨rfl,Below.refl _ _⟩
  · have HE : Hid (res = false) := by
      show res = false
      rw [← HRES.out]
      exact It.not_right fun h=>by
        have:=(It.right_iff.1 h).1
        simp only [pl,List.length_map] at this
        have:=HN.out
        omega
    have hor:(n:Int) < 1∨(¬ (n:Int) < 1/\(24:Int) < (n:Int)):=by omega
    clear hr
    rcases hor with h1 | ⟨h1,h2⟩
    all_goals
      go_enter Tryz.func107,Tryz.ntmps107
      go_wp2
      go_ret
      rw [HE.out]
      exact ⟨rfl,Below.refl _ _⟩
set_option maxHeartbeats 2000000 in
theorem rnames_any {S : Nat → Prop} (v : Value) (L : List Rw) (a b : Int) (w : World) (hv : TabAt S w v L) :
    Calls Tryz.prog 79 #[v,.agg #[.int .i64 a,.int .i64 b]] w fun e w'=>e = .returned (.bool (names (pl L) a b))/\Below w.heap.size w w':=by
  obtain ⟨ao,cap,rfl,hm,hx⟩:=hv.open
  clear hv
  unfold maxLen at hm
  obtain ⟨n,hn⟩:∃ n,L.length = n:=⟨_,rfl⟩
  rw [hn] at hm ⊢
  have HN:Hid (L.length = n):=hn
  have HX:Hid (∀ i x,L[i]? = some x->(∃ b off,ao = some ⟨b,off,none⟩/\b < w.heap.size/\eight w b (off + i * 8) x)/\Good S w x):=hx
  obtain ⟨W,hW⟩:∃ W,W = w.alloc (BH a b):=⟨_,rfl⟩
  have HB0:Hid (Below w.heap.size w W):=by show Below w.heap.size w W;rw [hW];exact (Below.refl _ w).alloc (Nat.le_refl _) _
  have HA0:Hid (W.heap[w.heap.size]? = some (BH a b)):=by show W.heap[w.heap.size]? = _;rw [hW];exact heap_alloc_new _ _
  have hws:w.heap.size < W.heap.size:=by rw [hW];simp
  obtain ⟨res,hres⟩:∃ res,names (pl L) a b = res:=⟨_,rfl⟩
  have HRES:Hid (names (pl L) a b = res):=hres
  rw [hres]
  clear hn hx hres
  go_enter Tryz.func79,Tryz.ntmps79
  go_wp2
  rw [← hW]
  clear hW
  go_loopw [9] (fun i wr=>∃ k:Nat,k<=n/\i = .int .i64 k/\(∀ j x,j < k->L[j]? = some x->¬ ((j:Int) = a/\x.i.gen = b/\x.i.kind≠0))/\Below W.heap.size W wr) (fun i _=>n - (intOf i).toNat)
  case atStart=>exact ⟨0,Nat.zero_le _,rfl,fun j x hj=>by omega,Below.refl _ _⟩
  case round =>
    obtain ⟨k,hk,rfl,hno,hbl⟩:=hrel
    have HNO:Hid (∀ j x,j < k->L[j]? = some x->¬ ((j:Int) = a/\x.i.gen = b/\x.i.kind≠0)):=hno
    have hsz:=hbl.size
    have HBW:Hid (Below w.heap.size w wr):=HB0.out.trans (hbl.mono HB0.out.size)
    have HA1:Hid (wr.heap[w.heap.size]? = some (BH a b)):=(hbl.block _ hws).trans HA0.out
    clear hno
    by_cases hlt:k < n
    · obtain ⟨y, hyk⟩ : ∃ y, L[k]? = some y := ⟨_, List.getElem?_eq_getElem (by rw [HN.out]; exact hlt)⟩
      obtain ⟨⟨b',off,rfl,hB,hc⟩,_⟩:=HX.out k y hyk
      obtain ⟨d0,d1,d2,d3,d4,d5,d6,d7⟩:=hc.below HBW.out hB
      have HYK:Hid (L[k]? = some y):=hyk
      have HNEXT:¬ ((k:Int) = a/\y.i.gen = b/\y.i.kind≠0)->Hid (∀ j x,j < k + 1->L[j]? = some x->¬ ((j:Int) = a/\x.i.gen = b/\x.i.kind≠0)):=fun hne j x hj hx hq=>by
        rcases Nat.lt_or_ge j k with h | h
        · exact HNO.out j x h hx hq
        · obtain rfl : j = k := by omega
          rw [HYK.out] at hx
          cases hx
          exact hne hq
      have HYES:((k:Int) = a/\y.i.gen = b/\y.i.kind≠0)->Hid (res = true):=fun hq=>by
        show res = true
        rw [← HRES.out]
        exact It.names_iff.2 ⟨k,y.i,It.pl_get HYK.out,hq.1.symm,hq.2.1,hq.2.2⟩
      obtain ⟨⟨g,kk,l,s,t,rs,es,nx⟩,rp,rn,rc,ep,en,ec⟩:=y
      simp only at d0 d1 d2 d3 d4 d5 d6 d7 HNEXT HYES
      have HA2:Hid ((wr.alloc (B8 g kk l s t (.slice rp rn rc) (.slice ep en ec) nx)).heap[w.heap.size]? = some (BH a b)):=(Below.heap_alloc _ _ _ (by omega)).trans HA1.out
      obtain ⟨⟨a0,a1⟩,_⟩:=two_of HA2.out
      have hlt':(k:Int) < (n:Int):=by omega
      clear hyk hc hB HYK
      by_cases h1:(k:Int) = a
      · by_cases h2 : g = b
        · by_cases h3 : kk = 0
          · have HN2 := HNEXT (fun h => h.2.2 h3)
            have h1':((k:Int) == a) = true:=by simp [h1]
            have h2':(g == b) = true:=by simp [h2]
            have h3':(kk != 0) = false:=by simp [h3]
            clear h1 h2 h3 HNEXT HYES
            go_wp2
            go_roundw
            case rel=>exact ⟨k + 1,by omega,by go_num,HN2.out,hbl.alloc hsz _⟩
            case measure=>simp [intOf];omega
          · have HE := HYES ⟨h1, h2, h3⟩
            have h1':((k:Int) == a) = true:=by simp [h1]
            have h2':(g == b) = true:=by simp [h2]
            have h3':(kk != 0) = true:=by simp [h3]
            clear h1 h2 h3 HNEXT HYES
            go_wp2
            go_ret
            rw [HE.out]
            exact ⟨rfl,HBW.out.alloc HBW.out.size _⟩
        · have HN2 := HNEXT (fun h => h2 h.2.1)
          have h1':((k:Int) == a) = true:=by simp [h1]
          have h2':(g == b) = false:=by simp [h2]
          clear h1 h2 HNEXT HYES
          go_wp2
          go_roundw
          case rel=>exact ⟨k + 1,by omega,by go_num,HN2.out,hbl.alloc hsz _⟩
          case measure=>simp [intOf];omega
      · have HN2 := HNEXT (fun h => h1 h.1)
        have h1':((k:Int) == a) = false:=by simp [h1]
        clear h1 HNEXT HYES
        go_wp2
        go_roundw
        case rel=>exact ⟨k + 1,by omega,by go_num,HN2.out,hbl.alloc hsz _⟩
        case measure=>simp [intOf];omega
    · obtain rfl : k = n := by omega
      have HE:Hid (res = false):=by
        show res = false
        rw [← HRES.out]
        cases hq:names (pl L) a b with
        | false=>rfl
        | true =>
          obtain ⟨j,y,hja,hy,hyg,hyk,hjl⟩:=It.named hq
          exact absurd ⟨hja.symm,hyg,hyk⟩ (HNO.out j y (by rw [← HN.out];exact hjl) hy)
      go_wp2
      go_ret
      rw [HE.out]
      exact ⟨rfl,HBW.out⟩
set_option maxHeartbeats 2000000 in
theorem rstamp_any {S : Nat → Prop} (v : Value) (L : List Rw) (w : World) (hv : TabAt S w v L) :
    Calls Tryz.prog 78 #[v] w fun e w'=>e = .returned (.int .i64 (Sp.top (pl L)))/\Below w.heap.size w w':=by
  obtain ⟨ao,cap,rfl,hm,hx⟩:=hv.open
  clear hv
  unfold maxLen at hm
  obtain ⟨n,hn⟩:∃ n,L.length = n:=⟨_,rfl⟩
  rw [hn] at hm ⊢
  have HN:Hid (L.length = n):=hn
  have HX:Hid (∀ i x,L[i]? = some x->(∃ b off,ao = some ⟨b,off,none⟩/\b < w.heap.size/\eight w b (off + i * 8) x)/\Good S w x):=hx
  obtain ⟨r,hr⟩:∃ r,Sp.top (pl L) = r:=⟨_,rfl⟩
  have HR:Hid (Sp.top (pl L) = r):=hr
  rw [hr]
  clear hr hn hx
  go_enter Tryz.func78,Tryz.ntmps78
  go_wp2
  go_loopw [3,8] (fun g i wr=>∃ k:Nat,k<=n/\i = .int .i64 k/\g = .int .i64 (Sp.top (pl (L.take k)))/\Hid (Below w.heap.size w wr)) (fun _ i _=>n - (intOf i).toNat)
  case atStart=>exact ⟨0,Nat.zero_le _,rfl,rfl,Below.refl _ _⟩
  case round =>
    obtain ⟨k,hk,rfl,rfl,HB⟩:=hrel
    have hsz:=HB.out.size
    obtain ⟨g,hg⟩:∃ g,Sp.top (pl (L.take k)) = g:=⟨_,rfl⟩
    have HGG:Hid (Sp.top (pl (L.take k)) = g):=hg
    rw [hg]
    clear hg
    by_cases hlt:k < n
    · obtain ⟨x, hxk⟩ : ∃ x, L[k]? = some x := ⟨_, List.getElem?_eq_getElem (by rw [HN.out]; exact hlt)⟩
      have HXK:Hid (L[k]? = some x):=hxk
      obtain ⟨⟨b,off,rfl,hB,hc⟩,-⟩:=HX.out k x hxk
      obtain ⟨c0,c1,c2,c3,c4,c5,c6,c7⟩:=hc.below HB.out hB
      have hlt':(k:Int) < (n:Int):=by omega
      clear hc hxk
      by_cases hgt:g < x.i.stamp
      · have HT : Hid (Sp.top (pl (L.take (k + 1))) = x.i.stamp) := by show Sp.top (pl (L.take (k + 1))) = _; rw [Sp.top_step HXK.out, HGG.out]; omega
        go_wp2
        go_roundw
        case rel=>exact ⟨k + 1,by omega,by go_num,by rw [HT.out],HB.out.alloc hsz _⟩
        case measure=>simp [intOf];omega
      · have HT : Hid (Sp.top (pl (L.take (k + 1))) = g) := by show Sp.top (pl (L.take (k + 1))) = _; rw [Sp.top_step HXK.out, HGG.out]; omega
        go_wp2
        go_roundw
        case rel=>exact ⟨k + 1,by omega,by go_num,by rw [HT.out],HB.out.alloc hsz _⟩
        case measure=>simp [intOf];omega
    · obtain rfl : k = n := by omega
      have HT:Hid (r = g):=by
        show r = g
        rw [← HGG.out,List.take_of_length_le (by rw [HN.out];exact Nat.le_refl _),HR.out]
      go_wp2
      go_ret
      rw [HT.out]
      exact ⟨rfl,HB.out⟩
/-- What sextonref11.Right answers: proved elsewhere. -/
def RtSaid (R:List Ino->Bool):Prop:=∀ (S:Nat->Prop) (v:Value) (L:List Rw) (w:World),TabAt S w v L->Sp.okN L->Calls Tryz.prog 75 #[v] w fun e w'=>e = .returned (.bool (R (pl L)))/\Below w.heap.size w w'
def Sp.chk (R:List Ino->Bool) (L:List Ino):Int:=if R L = true then 0 else 4
theorem checkErr_or (L:List Ino):(It.checkErr L = 0/\It.right L = true)∨(It.checkErr L = 4/\It.right L = false):=by
  unfold It.checkErr
  cases h:It.right L
  · exact .inr ⟨rfl,rfl⟩
  · exact .inl ⟨rfl,rfl⟩
set_option maxHeartbeats 4000000 in
theorem scheck_any : ChkSaid (Sp.chk Sp.isSp) := by
  intro S v L w hv hok
  have HV:Hid (TabAt S w v L):=hv
  have HOK:Hid (Sp.okN L):=hok
  obtain ⟨ao,cap,rfl,-,-⟩:=hv.open
  clear hv hok
  rcases checkErr_or (pl L) with ⟨hc,hr⟩ | ⟨hc,hr⟩
  · have HC : Hid (It.checkErr (pl L) = 0) := hc
    have HR:Hid (It.right (pl L) = true):=hr
    clear hc hr
    cases hf:Sp.foldsB (pl L) with
    | true =>
      have HF:Hid (Sp.foldsB (pl L) = true):=hf
      cases hn:Sp.cntB (pl L) with
      | true =>
        have HN:Hid (Sp.cntB (pl L) = true):=hn
        have HT:Hid (Sp.Tree (pl L)):=Sp.tree_of HR.out (Sp.foldsB_iff.1 hf) hn
        have hl:=(Sp.right_len HR.out).2
        have HL:Hid (L.length<=24):=by show L.length<=24;rwa [List.length_map] at hl
        have HD:Hid (Sp.deep (pl L) 24 0):=Sp.deep_all HT.out hl (show Sp.Anc (pl L) 0 0 0 from rfl) (Sp.dirAt_lt HT.out.root)
        have HLN:Hid ((Sp.walk (pl L) 24 0 ⟨#[]⟩).length<=24):=Nat.le_trans (Sp.walk_len HT.out 24 ⟨#[]⟩) (by rw [← Sp.count_dirs];exact Nat.le_trans List.countP_le_length hl)
        obtain ⟨q,hq⟩:∃ q,Sp.reachB (pl L) = q:=⟨_,rfl⟩
        have HQ:Hid (Sp.reachB (pl L) = q):=hq
        have hres:Sp.chk Sp.isSp (pl L) = if q = true then 0 else 4:=by
          unfold Sp.chk Sp.isSp
          rw [HR.out,hf,hn,hq]
          rfl
        rw [hres]
        clear hres hq hl hf hn
        cases q with
        | true =>
          rw [if_pos rfl]
          go_enter Tryz.func62,Tryz.ntmps62
          go_wp2_with fail
          refine (check_any _ L _ HV.out).mono ?_
          rintro e w1 ⟨rfl,hb⟩
          rw [HC.out]
          have HB1:Hid (Below w.heap.size w w1):=hb
          clear hb
          go_wp2_with fail
          refine (rightFolders_any _ L _ (HV.out.up HB1.out) HOK.out).mono ?_
          rintro e w2 ⟨rfl,hb⟩
          rw [HF.out]
          have HB2:Hid (Below w.heap.size w w2):=HB1.out.trans (hb.mono HB1.out.size)
          clear hb
          go_wp2_with fail
          refine (counted_any _ L _ (HV.out.up HB2.out) HR.out).mono ?_
          rintro e w3 ⟨rfl,hb⟩
          rw [HN.out]
          have HB3:Hid (Below w.heap.size w w3):=HB2.out.trans (hb.mono HB2.out.size)
          clear hb
          go_wp2_with fail
          refine (reached_any _ L _ (HV.out.up HB3.out) HD.out HL.out HLN.out).mono ?_
          rintro e w4 ⟨rfl,hb⟩
          rw [show (((Sp.walk (pl L) 24 0 ⟨#[]⟩).length:Int) - ((pl L).countP (fun x=>x.kind == 2):Nat) == 0) = true from HQ.out]
          have HB4:Hid (Below w.heap.size w w4):=HB3.out.trans (hb.mono HB3.out.size)
          clear hb
          go_wp2
          go_ret
          exact ⟨rfl,HB4.out⟩
        | false =>
          rw [if_neg (by decide)]
          go_enter Tryz.func62,Tryz.ntmps62
          go_wp2_with fail
          refine (check_any _ L _ HV.out).mono ?_
          rintro e w1 ⟨rfl,hb⟩
          rw [HC.out]
          have HB1:Hid (Below w.heap.size w w1):=hb
          clear hb
          go_wp2_with fail
          refine (rightFolders_any _ L _ (HV.out.up HB1.out) HOK.out).mono ?_
          rintro e w2 ⟨rfl,hb⟩
          rw [HF.out]
          have HB2:Hid (Below w.heap.size w w2):=HB1.out.trans (hb.mono HB1.out.size)
          clear hb
          go_wp2_with fail
          refine (counted_any _ L _ (HV.out.up HB2.out) HR.out).mono ?_
          rintro e w3 ⟨rfl,hb⟩
          rw [HN.out]
          have HB3:Hid (Below w.heap.size w w3):=HB2.out.trans (hb.mono HB2.out.size)
          clear hb
          go_wp2_with fail
          refine (reached_any _ L _ (HV.out.up HB3.out) HD.out HL.out HLN.out).mono ?_
          rintro e w4 ⟨rfl,hb⟩
          rw [show (((Sp.walk (pl L) 24 0 ⟨#[]⟩).length:Int) - ((pl L).countP (fun x=>x.kind == 2):Nat) == 0) = false from HQ.out]
          have HB4:Hid (Below w.heap.size w w4):=HB3.out.trans (hb.mono HB3.out.size)
          clear hb
          go_wp2
          go_ret
          exact ⟨rfl,HB4.out⟩
      | false =>
        have HN:Hid (Sp.cntB (pl L) = false):=hn
        have hres:Sp.chk Sp.isSp (pl L) = 4:=by
          unfold Sp.chk Sp.isSp
          rw [HR.out,hf,hn]
          rfl
        rw [hres]
        clear hres hf hn
        go_enter Tryz.func62,Tryz.ntmps62
        go_wp2_with fail
        refine (check_any _ L _ HV.out).mono ?_
        rintro e w1 ⟨rfl,hb⟩
        rw [HC.out]
        have HB1:Hid (Below w.heap.size w w1):=hb
        clear hb
        go_wp2_with fail
        refine (rightFolders_any _ L _ (HV.out.up HB1.out) HOK.out).mono ?_
        rintro e w2 ⟨rfl,hb⟩
        rw [HF.out]
        have HB2:Hid (Below w.heap.size w w2):=HB1.out.trans (hb.mono HB1.out.size)
        clear hb
        go_wp2_with fail
        refine (counted_any _ L _ (HV.out.up HB2.out) HR.out).mono ?_
        rintro e w3 ⟨rfl,hb⟩
        rw [HN.out]
        have HB3:Hid (Below w.heap.size w w3):=HB2.out.trans (hb.mono HB2.out.size)
        clear hb
        go_wp2
        go_ret
        exact ⟨rfl,HB3.out⟩
    | false =>
      have HF:Hid (Sp.foldsB (pl L) = false):=hf
      have hres:Sp.chk Sp.isSp (pl L) = 4:=by
        unfold Sp.chk Sp.isSp
        rw [HR.out,hf]
        rfl
      rw [hres]
      clear hres hf
      go_enter Tryz.func62,Tryz.ntmps62
      go_wp2_with fail
      refine (check_any _ L _ HV.out).mono ?_
      rintro e w1 ⟨rfl,hb⟩
      rw [HC.out]
      have HB1:Hid (Below w.heap.size w w1):=hb
      clear hb
      go_wp2_with fail
      refine (rightFolders_any _ L _ (HV.out.up HB1.out) HOK.out).mono ?_
      rintro e w2 ⟨rfl,hb⟩
      rw [HF.out]
      have HB2:Hid (Below w.heap.size w w2):=HB1.out.trans (hb.mono HB1.out.size)
      clear hb
      go_wp2
      go_ret
      exact ⟨rfl,HB2.out⟩
  · have HC : Hid (It.checkErr (pl L) = 4) := hc
    have hres:Sp.chk Sp.isSp (pl L) = 4:=by
      unfold Sp.chk Sp.isSp
      rw [hr]
      rfl
    rw [hres]
    clear hres hc hr
    go_enter Tryz.func62,Tryz.ntmps62
    go_wp2_with fail
    refine (check_any _ L _ HV.out).mono ?_
    rintro e w1 ⟨rfl,hb⟩
    rw [HC.out]
    go_wp2
    go_ret
    exact ⟨rfl,hb⟩
/-- Is a folder below an inode, or the inode itself? -/
def Sp.insB (L:List Ino) (no tq:Int):Bool:=(Sp.walk L 24 no.toNat ⟨#[]⟩).any fun z=>(z.1:Int) == tq
end Go.Proofs.YtggoccfddnpelaaGreat
namespace Go.Proofs.YtggoccfddnpelaaGreat.Os
open Go.RowKit
set_option maxRecDepth 100000
/-- An open file: its number, the client, the handle's number and generation. -/
abbrev Opn:=Int × Int × Int × Int
def EO:Enc Opn:=⟨4,fun x=>[.int .i64 x.1,.int .i64 x.2.1,.int .i64 x.2.2.1,.int .i64 x.2.2.2],fun _=>rfl,fun x u hu=>by
  simp at hu
  rcases hu with rfl | rfl | rfl | rfl <;> rfl⟩
/-- A handle that an open file may be of. -/
def Ho (no gen:Int):Prop:=(0<=no/\no<=23)/\(1<=gen/\gen<=1099511627776)
instance (no gen:Int):Decidable (Ho no gen):=by unfold Ho;infer_instance
namespace Op
/-- A client that may be. -/
def Cl (c:Int):Prop:=0<=c/\c<=1099511627776
instance (c:Int):Decidable (Cl c):=by unfold Cl;infer_instance
def good (t:Int) (x:Opn):Prop:=(t<=x.1/\x.1<=15)/\Cl x.2.1/\Ho x.2.2.1 x.2.2.2
instance (t:Int) (x:Opn):Decidable (good t x):=by unfold good;infer_instance
def right (t:Int):List Opn->Bool
  | []=>true
  | x :: r=>decide (good t x) && right (x.1 + 1) r
theorem drop_at {α:Type} {l:List α} {k:Nat} {x:α} (h:l[k]? = some x):l.drop k = x :: l.drop (k + 1):=by
  obtain ⟨hk,rfl⟩:=List.getElem?_eq_some_iff.1 h
  exact List.drop_eq_getElem_cons hk
theorem take_at {α:Type} {l:List α} {k:Nat} {x:α} (h:l[k]? = some x):l.take (k + 1) = l.take k ++ [x]:=by
  rw [List.take_add_one,h]
  rfl
theorem right_yes {l:List Opn} {k:Nat} {x:Opn} {t:Int} (h:l[k]? = some x) (hg:good t x):right t (l.drop k) = right (x.1 + 1) (l.drop (k + 1)):=by
  rw [drop_at h]
  simp [right,hg]
theorem right_no {l:List Opn} {k:Nat} {x:Opn} {t:Int} (h:l[k]? = some x) (hg:¬ good t x):right t (l.drop k) = false:=by
  rw [drop_at h]
  simp [right,hg]
theorem right_end {l:List Opn} {k:Nat} {t:Int} (h:k = l.length):right t (l.drop k) = true:=by
  rw [h,List.drop_length]
  rfl
theorem right_all:∀ (l:List Opn) (t:Int),right t l = true->∀ (j:Nat) (x:Opn),l[j]? = some x->t + j<=x.1/\x.1 + (l.length:Int)<=16 + j/\Cl x.2.1/\Ho x.2.2.1 x.2.2.2
  | [],_,_,j,x,h=>by simp at h
  | y :: r, t, h, 0, x, hx => by
    simp [right] at h
    simp at hx
    subst hx
    refine ⟨by have:=h.1.1.1;simpa using this,?_,h.1.2.1,h.1.2.2⟩
    have ih:=right_all r _ h.2
    cases r with
    | nil =>
      have:=h.1.1.2
      simp
      omega
    | cons z r =>
      have:=ih 0 z rfl
      simp only [List.length_cons] at this ⊢
      omega
  | y :: r, t, h, j + 1, x, hx => by
    simp [right] at h
    have ih:=right_all r _ h.2 j x (by simpa using hx)
    have:=h.1.1.1
    simp only [List.length_cons]
    refine ⟨by omega,by omega,ih.2.2⟩
theorem right_len {l:List Opn} (h:right 0 l = true):l.length<=16:=by
  cases l with
  | nil=>simp
  | cons x r =>
    have:=right_all _ _ h 0 x rfl
    omega
/-- What is wrong with open files or a client. -/
def ask (l:List Opn) (c:Int):Int:=if right 0 l = true then (if Cl c then 0 else 1) else 4
/-- The least number that is free, from i on. -/
def least (i:Nat):List Opn->Nat
  | []=>i
  | x :: r=>if x.1 = i then least (i + 1) r else i
/-- Is a number used? -/
def used (l:List Opn) (n:Int):Bool:=l.any fun x=>x.1 == n
def openErr (l:List Opn) (c no gen:Int):Int:=if ask l c = 0 then (if Ho no gen then (if l.length = 16 then 407 else 0) else 1) else ask l c
def opened (l:List Opn) (c no gen:Int):List Opn:=if openErr l c no gen = 0 then l.take (least 0 l) ++ [((least 0 l:Int),c,no,gen)] ++ l.drop (least 0 l) else []
/-- A client's open file of a number. -/
def mine (c fd:Int) (x:Opn):Bool:=x.2.1 == c && x.1 == fd
def owned (l:List Opn) (c:Int):List Opn:=l.filter fun x=>x.2.1 == c
def without (l g:List Opn):List Opn:=l.filter fun x=>decide (x ∉ g)
def closeErr (l:List Opn) (c fd:Int):Int:=if ask l c = 0 then (match l.find? (mine c fd) with | some _=>0 | none=>411) else ask l c
def closed (l:List Opn) (c fd:Int):List Opn:=if ask l c = 0 then (match l.find? (mine c fd) with | some x=>without l [x] | none=>[]) else []
def closeOf (l:List Opn) (c fd:Int):Int × Int:=if ask l c = 0 then (match l.find? (mine c fd) with | some x=>x.2.2 | none=>(0,0)) else (0,0)
def left (l:List Opn) (c:Int):List Opn:=if ask l c = 0 then without l (owned l c) else []
def held (l:List Opn) (no gen:Int):Nat:=l.countP fun x=>x.2.2.1 == no && x.2.2.2 == gen
end Op
end Go.Proofs.YtggoccfddnpelaaGreat.Os
