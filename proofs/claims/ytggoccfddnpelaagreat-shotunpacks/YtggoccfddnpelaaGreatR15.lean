/- NAttr, NAttrP, NPlain, as one. -/
import Derived.Test.YtggoccfddnpelaaGreatR14
namespace Go.Proofs.YtggoccfddnpelaaGreat.Ks.Rs
open Go.ChangeShapes Go.WideShapes Go.ChangeAt Go.RowKit Go.Deep
set_option maxRecDepth 100000
namespace At
/-- Kind, links, size, stamp. -/
abbrev rightP (k l s t:Int):Prop:=(k = 0/\l = 0/\s = 0/\t = 0)∨((0<=s/\s<=1048576)/\(0<=t/\t<=1099511627776)/\((k = 1/\0<=l/\l<=64)∨(k = 2/\l = 1)))
def right (k l s t:Int):Bool:=decide (rightP k l s t)
theorem right_iff {k l s t:Int}:right k l s t = true ↔ rightP k l s t:=by simp [right]
theorem wrong_iff {k l s t:Int}:right k l s t = false ↔ ¬ rightP k l s t:=by simp [right]
end At
abbrev BA (k l s t:Int):Obj:=.cells #[.int .i64 k,.int .i64 l,.int .i64 s,.int .i64 t] 48
abbrev VA (k l s t:Int):Value:=.agg #[.int .i64 k,.int .i64 l,.int .i64 s,.int .i64 t]
theorem awithin_any (lo x hi:Int) (w:World):Calls Tryz.prog 105 #[.int .i64 lo,.int .i64 x,.int .i64 hi] w fun e w'=>e = .returned (.bool (decide (lo<=x/\x<=hi)))/\w' = w:=by
  by_cases h1:lo<=x
  · by_cases h2 : x ≤ hi
    · rw [decide_eq_true (show lo ≤ x ∧ x ≤ hi from ⟨h1, h2⟩)]
      go_enter Tryz.func105,Tryz.ntmps105
      go_wp2
      go_ret
      exact ⟨rfl,rfl⟩
    · rw [decide_eq_false (show ¬ (lo ≤ x ∧ x ≤ hi) from fun h => h2 h.2)]
      go_enter Tryz.func105,Tryz.ntmps105
      go_wp2
      go_ret
      exact ⟨rfl,rfl⟩
  · rw [decide_eq_false (show ¬ (lo ≤ x ∧ x ≤ hi) from fun h => h1 h.1)]
    go_enter Tryz.func105,Tryz.ntmps105
    go_wp2
    go_ret
    exact ⟨rfl,rfl⟩
theorem awithin_yes (lo x hi:Int) (w:World) (h:lo<=x/\x<=hi):Calls Tryz.prog 105 #[.int .i64 lo,.int .i64 x,.int .i64 hi] w fun e w'=>e = .returned (.bool true)/\w' = w:=by
  have:=awithin_any lo x hi w
  rwa [decide_eq_true h] at this
theorem awithin_no (lo x hi:Int) (w:World) (h:¬ (lo<=x/\x<=hi)):Calls Tryz.prog 105 #[.int .i64 lo,.int .i64 x,.int .i64 hi] w fun e w'=>e = .returned (.bool false)/\w' = w:=by
  have:=awithin_any lo x hi w
  rwa [decide_eq_false h] at this
set_option maxHeartbeats 1000000 in
theorem acheck_yes (k l s t:Int) (w:World) (h:At.right k l s t = true):Calls Tryz.prog 71 #[VA k l s t] w fun e w'=>e = .returned (.int .i64 0)/\w' = w.alloc (BA k l s t):=by
  rcases At.right_iff.1 h with ⟨rfl,rfl,rfl,rfl⟩ | ⟨hs,ht,⟨rfl,hl⟩ | ⟨rfl,rfl⟩⟩
  · clear h
    go_enter Tryz.func71,Tryz.ntmps71
    go_wp2
    go_ret
    exact ⟨rfl,rfl⟩
  · have HS : Hid ((0 ≤ l ∧ l ≤ 64) ∧ (0 ≤ s ∧ s ≤ 1048576) ∧ (0 ≤ t ∧ t ≤ 1099511627776)) := ⟨hl, hs, ht⟩
    clear h hl hs ht
    go_enter Tryz.func71,Tryz.ntmps71
    go_wp2_with fail
    refine (awithin_yes _ _ _ _ HS.out.1).mono ?_
    rintro e w' ⟨rfl,rfl⟩
    go_wp2_with fail
    refine (awithin_yes _ _ _ _ HS.out.2.1).mono ?_
    rintro e w' ⟨rfl,rfl⟩
    go_wp2_with fail
    refine (awithin_yes _ _ _ _ HS.out.2.2).mono ?_
    rintro e w' ⟨rfl,rfl⟩
    go_wp2
    go_ret
    exact ⟨rfl,rfl⟩
  · have HS : Hid ((0 ≤ s ∧ s ≤ 1048576) ∧ (0 ≤ t ∧ t ≤ 1099511627776)) := ⟨hs, ht⟩
    clear h hs ht
    go_enter Tryz.func71,Tryz.ntmps71
    go_wp2_with fail
    refine (awithin_yes _ _ _ _ (by decide)).mono ?_
    rintro e w' ⟨rfl,rfl⟩
    go_wp2_with fail
    refine (awithin_yes _ _ _ _ HS.out.1).mono ?_
    rintro e w' ⟨rfl,rfl⟩
    go_wp2_with fail
    refine (awithin_yes _ _ _ _ HS.out.2).mono ?_
    rintro e w' ⟨rfl,rfl⟩
    go_wp2
    go_ret
    exact ⟨rfl,rfl⟩
theorem acheck_file (l s t:Int) (w:World) (h:¬ ((0<=l/\l<=64)/\(0<=s/\s<=1048576)/\(0<=t/\t<=1099511627776))):Calls Tryz.prog 71 #[VA 1 l s t] w fun e w'=>e = .returned (.int .i64 70)/\w' = w.alloc (BA 1 l s t):=by
  by_cases h1:0<=l/\l<=64
  · by_cases h2 : 0 ≤ s ∧ s ≤ 1048576
    · have H1 : Hid ((0 ≤ l ∧ l ≤ 64) ∧ (0 ≤ s ∧ s ≤ 1048576) ∧ ¬ (0 ≤ t ∧ t ≤ 1099511627776)) := ⟨h1, h2, fun h3 => h ⟨h1, h2, h3⟩⟩
      clear h1 h2 h
      go_enter Tryz.func71,Tryz.ntmps71
      go_wp2_with fail
      refine (awithin_yes _ _ _ _ H1.out.1).mono ?_
      rintro e w' ⟨rfl,rfl⟩
      go_wp2_with fail
      refine (awithin_yes _ _ _ _ H1.out.2.1).mono ?_
      rintro e w' ⟨rfl,rfl⟩
      go_wp2_with fail
      refine (awithin_no _ _ _ _ H1.out.2.2).mono ?_
      rintro e w' ⟨rfl,rfl⟩
      go_wp2
      go_ret
      exact ⟨rfl,rfl⟩
    · have H1 : Hid ((0 ≤ l ∧ l ≤ 64) ∧ ¬ (0 ≤ s ∧ s ≤ 1048576)) := ⟨h1, h2⟩
      clear h1 h2 h
      go_enter Tryz.func71,Tryz.ntmps71
      go_wp2_with fail
      refine (awithin_yes _ _ _ _ H1.out.1).mono ?_
      rintro e w' ⟨rfl,rfl⟩
      go_wp2_with fail
      refine (awithin_no _ _ _ _ H1.out.2).mono ?_
      rintro e w' ⟨rfl,rfl⟩
      go_wp2
      go_ret
      exact ⟨rfl,rfl⟩
  · have H1 : Hid (¬ (0 ≤ l ∧ l ≤ 64)) := h1
    clear h1 h
    go_enter Tryz.func71,Tryz.ntmps71
    go_wp2_with fail
    refine (awithin_no _ _ _ _ H1.out).mono ?_
    rintro e w' ⟨rfl,rfl⟩
    go_wp2
    go_ret
    exact ⟨rfl,rfl⟩
theorem acheck_dir (s t:Int) (w:World) (h:¬ ((0<=s/\s<=1048576)/\(0<=t/\t<=1099511627776))):Calls Tryz.prog 71 #[VA 2 1 s t] w fun e w'=>e = .returned (.int .i64 70)/\w' = w.alloc (BA 2 1 s t):=by
  by_cases h2:0<=s/\s<=1048576
  · have H1 : Hid ((0 ≤ s ∧ s ≤ 1048576) ∧ ¬ (0 ≤ t ∧ t ≤ 1099511627776)) := ⟨h2, fun h3 => h ⟨h2, h3⟩⟩
    clear h2 h
    go_enter Tryz.func71,Tryz.ntmps71
    go_wp2_with fail
    refine (awithin_yes _ _ _ _ (by decide)).mono ?_
    rintro e w' ⟨rfl,rfl⟩
    go_wp2_with fail
    refine (awithin_yes _ _ _ _ H1.out.1).mono ?_
    rintro e w' ⟨rfl,rfl⟩
    go_wp2_with fail
    refine (awithin_no _ _ _ _ H1.out.2).mono ?_
    rintro e w' ⟨rfl,rfl⟩
    go_wp2
    go_ret
    exact ⟨rfl,rfl⟩
  · have H1 : Hid (¬ (0 ≤ s ∧ s ≤ 1048576)) := h2
    clear h2 h
    go_enter Tryz.func71,Tryz.ntmps71
    go_wp2_with fail
    refine (awithin_yes _ _ _ _ (by decide)).mono ?_
    rintro e w' ⟨rfl,rfl⟩
    go_wp2_with fail
    refine (awithin_no _ _ _ _ H1.out).mono ?_
    rintro e w' ⟨rfl,rfl⟩
    go_wp2
    go_ret
    exact ⟨rfl,rfl⟩
set_option maxHeartbeats 1000000 in
theorem acheck_no (k l s t : Int) (w : World) (h : At.right k l s t = false) : Calls Tryz.prog 71 #[VA k l s t] w fun e w' => e = .returned (.int .i64 70) ∧ w' = w.alloc (BA k l s t) := by
  have hw:=At.wrong_iff.1 h
  clear h
  unfold At.rightP at hw
  by_cases k1:k = 1
  · subst k1
    exact acheck_file l s t w (fun h=>hw (.inr ⟨h.2.1,h.2.2,.inl ⟨rfl,h.1⟩⟩))
  by_cases k2:k = 2
  · by_cases l1 : l = 1
    · subst k2
      subst l1
      exact acheck_dir s t w (fun h=>hw (.inr ⟨h.1,h.2,.inr ⟨rfl,rfl⟩⟩))
    · subst k2
      clear hw
      go_enter Tryz.func71,Tryz.ntmps71
      go_wp2
      go_ret
      exact ⟨rfl,rfl⟩
  by_cases k0:k = 0
  · subst k0
    have hz:((l == 0) && ((s == 0) && (t == 0))) = false:=by
      rw [Bool.eq_false_iff]
      intro h
      simp at h
      exact hw (.inl ⟨rfl,h.1,h.2.1,h.2.2⟩)
    by_cases l0:l = 0
    · by_cases s0 : s = 0
      · have t0 : ¬ t = 0 := fun h => hw (.inl ⟨rfl, l0, s0, h⟩)
        clear hz hw k1 k2
        subst l0
        subst s0
        go_enter Tryz.func71,Tryz.ntmps71
        go_wp2
        go_ret
        exact ⟨rfl,rfl⟩
      · clear hz hw k1 k2
        subst l0
        go_enter Tryz.func71,Tryz.ntmps71
        go_wp2
        go_ret
        exact ⟨rfl,rfl⟩
    · clear hz hw k1 k2
      go_enter Tryz.func71,Tryz.ntmps71
      go_wp2
      go_ret
      exact ⟨rfl,rfl⟩
  · clear hw
    go_enter Tryz.func71,Tryz.ntmps71
    go_wp2
    go_ret
    exact ⟨rfl,rfl⟩
set_option maxHeartbeats 2000000 in
theorem aright_any (k l s t : Int) (w : World) : Calls Tryz.prog 55 #[VA k l s t] w fun e w' => e = .returned (.bool (At.right k l s t)) ∧ w' = w.alloc (BA k l s t) := by
  by_cases k0:k = 0
  · have HE : Hid (At.right k l s t = (decide (l = 0) && decide (s = 0) && decide (t = 0))) := by
      show At.right k l s t = _
      unfold At.right At.rightP
      rw [Bool.eq_iff_iff]
      simp [k0,and_assoc]
    subst k0
    obtain ⟨y,hy⟩:∃ y,At.right 0 l s t = y:=⟨_,rfl⟩
    have HY:Hid (At.right 0 l s t = y):=hy
    rw [hy]
    clear hy
    by_cases l0:l = 0
    · by_cases s0 : s = 0
      · by_cases t0 : t = 0
        all_goals
          have H:Hid (y = decide (t = 0)):=by show y = _;rw [← HY.out,HE.out];simp [l0,s0]
          subst l0
          subst s0
          go_enter Tryz.func55,Tryz.ntmps55
          go_wp2
          go_ret
          rw [H.out]
          simp [t0]
      · have H : Hid (y = false) := by show y = _; rw [← HY.out, HE.out]; simp [s0]
        subst l0
        go_enter Tryz.func55,Tryz.ntmps55
        go_wp2
        go_ret
        rw [H.out]
        exact ⟨rfl,rfl⟩
    · have H : Hid (y = false) := by show y = _; rw [← HY.out, HE.out]; simp [l0]
      go_enter Tryz.func55,Tryz.ntmps55
      go_wp2
      go_ret
      rw [H.out]
      exact ⟨rfl,rfl⟩
  · obtain ⟨y, hy⟩ : ∃ y, At.right k l s t = y := ⟨_, rfl⟩
    have HY:Hid (At.right k l s t = y):=hy
    rw [hy]
    clear hy
    by_cases s0:s < 0
    · have H : Hid (y = false) := by rw [← HY.out]; exact At.wrong_iff.2 (by unfold At.rightP; omega)
      go_enter Tryz.func55,Tryz.ntmps55
      go_wp2
      go_ret
      rw [H.out]
      exact ⟨rfl,rfl⟩
    by_cases s1:1048576 < s
    · have H : Hid (y = false) := by rw [← HY.out]; exact At.wrong_iff.2 (by unfold At.rightP; omega)
      go_enter Tryz.func55,Tryz.ntmps55
      go_wp2
      go_ret
      rw [H.out]
      exact ⟨rfl,rfl⟩
    by_cases t0:t < 0
    · have H : Hid (y = false) := by rw [← HY.out]; exact At.wrong_iff.2 (by unfold At.rightP; omega)
      go_enter Tryz.func55,Tryz.ntmps55
      go_wp2
      go_ret
      rw [H.out]
      exact ⟨rfl,rfl⟩
    by_cases t1:1099511627776 < t
    · have H : Hid (y = false) := by rw [← HY.out]; exact At.wrong_iff.2 (by unfold At.rightP; omega)
      go_enter Tryz.func55,Tryz.ntmps55
      go_wp2
      go_ret
      rw [H.out]
      exact ⟨rfl,rfl⟩
    by_cases k1:k = 1
    · by_cases l0 : 0 ≤ l
      · by_cases l1 : l ≤ 64
        · have H : Hid (y = true) := by rw [← HY.out]; exact At.right_iff.2 (by unfold At.rightP; omega)
          subst k1
          go_enter Tryz.func55,Tryz.ntmps55
          go_wp2
          go_ret
          rw [H.out]
          exact ⟨rfl,rfl⟩
        · have H : Hid (y = false) := by rw [← HY.out]; exact At.wrong_iff.2 (by unfold At.rightP; omega)
          subst k1
          go_enter Tryz.func55,Tryz.ntmps55
          go_wp2
          go_ret
          rw [H.out]
          exact ⟨rfl,rfl⟩
      · have H : Hid (y = false) := by rw [← HY.out]; exact At.wrong_iff.2 (by unfold At.rightP; omega)
        subst k1
        go_enter Tryz.func55,Tryz.ntmps55
        go_wp2
        go_ret
        rw [H.out]
        exact ⟨rfl,rfl⟩
    by_cases k2:k = 2
    · by_cases l1 : l = 1
      · have H : Hid (y = true) := by rw [← HY.out]; exact At.right_iff.2 (by unfold At.rightP; omega)
        subst k2
        subst l1
        go_enter Tryz.func55,Tryz.ntmps55
        go_wp2
        go_ret
        rw [H.out]
        exact ⟨rfl,rfl⟩
      · have H : Hid (y = false) := by rw [← HY.out]; exact At.wrong_iff.2 (by unfold At.rightP; omega)
        subst k2
        have l1':(l == 1) = false:=by simpa using l1
        go_enter Tryz.func55,Tryz.ntmps55
        go_wp2
        go_ret
        rw [H.out]
        exact ⟨rfl,rfl⟩
    have H:Hid (y = false):=by rw [← HY.out];exact At.wrong_iff.2 (by unfold At.rightP;omega)
    go_enter Tryz.func55,Tryz.ntmps55
    go_wp2
    go_ret
    rw [H.out]
    exact ⟨rfl,rfl⟩
theorem anum_s (n size:Int) (w:World) (hn:n<=9223372036854775807):Calls Tryz.prog 72 #[.int .i64 n,.int .i64 size] w fun e w'=>e = .returned (.string (Pl.numOut n size))/\Below w.heap.size w w':=by
  go_enter Tryz.func72,Tryz.ntmps72
  go_wp2_with fail
  refine (num_any n size _ hn).mono ?_
  rintro e w1 ⟨rfl,hb⟩
  go_wp2
  go_ret
  exact ⟨rfl,hb⟩
theorem anumber_s (s:ByteArray) (w:World) (hs:s.size<=maxLen):Calls Tryz.prog 106 #[.string s] w fun e w'=>e = .returned (.int .i64 (Pl.numVal s))/\w' = w:=by
  have HS:Hid (s.size<=maxLen):=hs
  clear hs
  go_enter Tryz.func106,Tryz.ntmps106
  go_wp2_with fail
  refine (number_any s _ HS.out).mono ?_
  rintro e w1 ⟨rfl,rfl⟩
  go_wp2
  go_ret
  exact ⟨rfl,rfl⟩
theorem Pl.numOut_size (n size:Int):(Pl.numOut n size).size<=8:=by
  unfold Pl.numOut
  split
  · decide
  · rename_i h
    rw [Pl.txt_size,Pl.digits_length]
    unfold Pl.numBad at h
    simp at h
    omega
def At.packOut (k l s t:Int):ByteArray:=if At.right k l s t then Pl.numOut k 1 ++ Pl.numOut l 1 ++ Pl.numOut s 4 ++ Pl.numOut t 6 else ⟨#[]⟩
def At.packErr (k l s t:Int):Int:=if At.right k l s t then 0 else 70
theorem four_next {w' w'':World} {R:Nat} {x0 x1 x2 x3:Value} (h:w'.cell? ⟨R,0,none⟩ = some x0/\w'.cell? ⟨R,1,none⟩ = some x1/\w'.cell? ⟨R,2,none⟩ = some x2/\w'.cell? ⟨R,3,none⟩ = some x3/\R < w'.heap.size) (hb:Below w'.heap.size w' w'') :
    w''.cell? ⟨R,0,none⟩ = some x0/\w''.cell? ⟨R,1,none⟩ = some x1/\w''.cell? ⟨R,2,none⟩ = some x2/\w''.cell? ⟨R,3,none⟩ = some x3/\R < w''.heap.size:=by
  obtain ⟨h0,h1,h2,h3,hR⟩:=h
  exact ⟨(hb.cell (p:=⟨R,0,none⟩) hR).trans h0,(hb.cell (p:=⟨R,1,none⟩) hR).trans h1,(hb.cell (p:=⟨R,2,none⟩) hR).trans h2,(hb.cell (p:=⟨R,3,none⟩) hR).trans h3,Nat.lt_of_lt_of_le hR hb.size⟩
set_option maxHeartbeats 2000000 in
theorem apack_any (k l s t : Int) (w : World) (hs : s ≤ 9223372036854775807) (ht : t ≤ 9223372036854775807) (hk : k ≤ 9223372036854775807) (hl : l ≤ 9223372036854775807) :
    Calls Tryz.prog 46 #[VA k l s t] w fun e w'=>e = .returned (.tuple #[.string (At.packOut k l s t),.int .i64 (At.packErr k l s t)])/\Below w.heap.size w w':=by
  by_cases hr:At.right k l s t = true
  · have HR : Hid (At.right k l s t = true) := hr
    have HO:Hid (At.packOut k l s t = Pl.numOut k 1 ++ Pl.numOut l 1 ++ Pl.numOut s 4 ++ Pl.numOut t 6/\At.packErr k l s t = 0):=⟨by simp [At.packOut,hr],by simp [At.packErr,hr]⟩
    have z1:=Pl.numOut_size k 1
    have z2:=Pl.numOut_size l 1
    have z3:=Pl.numOut_size s 4
    have z4:=Pl.numOut_size t 6
    obtain ⟨n1,hn1⟩:∃ n1,Pl.numOut k 1 = n1:=⟨_,rfl⟩
    obtain ⟨n2,hn2⟩:∃ n2,Pl.numOut l 1 = n2:=⟨_,rfl⟩
    obtain ⟨n3,hn3⟩:∃ n3,Pl.numOut s 4 = n3:=⟨_,rfl⟩
    obtain ⟨n4,hn4⟩:∃ n4,Pl.numOut t 6 = n4:=⟨_,rfl⟩
    rw [hn1,hn2,hn3,hn4] at HO
    rw [hn1] at z1
    rw [hn2] at z2
    rw [hn3] at z3
    rw [hn4] at z4
    have HN:Hid (Pl.numOut k 1 = n1/\Pl.numOut l 1 = n2/\Pl.numOut s 4 = n3/\Pl.numOut t 6 = n4):=⟨hn1,hn2,hn3,hn4⟩
    have hq1:¬ 9223372036854775807 < n1.size + n2.size:=by omega
    have hq2:¬ 9223372036854775807 < n1.size + n2.size + n3.size:=by omega
    have hq3:¬ 9223372036854775807 < n1.size + n2.size + n3.size + n4.size:=by omega
    clear hr hn1 hn2 hn3 hn4
    go_enter Tryz.func46,Tryz.ntmps46
    go_wp2_with fail
    refine (acheck_yes k l s t _ HR.out).mono ?_
    rintro e w1 ⟨rfl,rfl⟩
    have HS:Hid (((w.alloc (BA k l s t)).alloc (BA k l s t)).cell? ⟨w.heap.size,0,none⟩ = some (.int .i64 k)/\((w.alloc (BA k l s t)).alloc (BA k l s t)).cell? ⟨w.heap.size,1,none⟩ = some (.int .i64 l)/\((w.alloc (BA k l s t)).alloc (BA k l s t)).cell? ⟨w.heap.size,2,none⟩ = some (.int .i64 s)/\((w.alloc (BA k l s t)).alloc (BA k l s t)).cell? ⟨w.heap.size,3,none⟩ = some (.int .i64 t)/\w.heap.size < ((w.alloc (BA k l s t)).alloc (BA k l s t)).heap.size):=⟨by simp,by simp,by simp,by simp,by simp;omega⟩
    have HB:Hid (Below w.heap.size w ((w.alloc (BA k l s t)).alloc (BA k l s t))):=((Below.refl _ _).alloc (Nat.le_refl _) _).alloc (by simp) _
    go_wp2_with fail
    obtain ⟨W,hW⟩:∃ W,(w.alloc (BA k l s t)).alloc (BA k l s t) = W:=⟨_,rfl⟩
    obtain ⟨R,hR⟩:∃ R,w.heap.size = R:=⟨_,rfl⟩
    rw [hW] at HB
    rw [hW,hR] at HS
    rw [hW,hR]
    go_region_held3 (fun w'=>w'.cell? ⟨R,0,none⟩ = some (.int .i64 k)/\w'.cell? ⟨R,1,none⟩ = some (.int .i64 l)/\w'.cell? ⟨R,2,none⟩ = some (.int .i64 s)/\w'.cell? ⟨R,3,none⟩ = some (.int .i64 t)/\R < w'.heap.size) (first | exact HS.out | assumption | exact four_next (by assumption) (by assumption)) (first
      | (go_at_call_of 72 (Value.int .i64 6);refine (anum_s t 6 _ ht).mono ?_;rintro e w5 ⟨rfl,hb5⟩;rw [HN.out.2.2.2])
      | (go_at_call_of 72 (Value.int .i64 4);refine (anum_s s 4 _ hs).mono ?_;rintro e w4 ⟨rfl,hb4⟩;rw [HN.out.2.2.1])
      | (go_at_call 72;have hb2':=hb2;refine (anum_s l 1 _ hl).mono ?_;rintro e w3 ⟨rfl,hb3⟩;rw [HN.out.2.1])
      | (go_at_call 72;refine (anum_s k 1 _ hk).mono ?_;rintro e w2 ⟨rfl,hb2⟩;rw [HN.out.1]))
    all_goals
      have HF:Hid (Below w.heap.size w w5):=by
        have h1:=HB.out
        have b2:Below W.heap.size W w2:=⟨hb2.os,hb2.tape,hb2.output,hb2.size,hb2.block⟩
        have h2:=h1.trans (b2.mono h1.size)
        have h3:=h2.trans (hb3.mono h2.size)
        have h4:=h3.trans (hb4.mono h3.size)
        exact h4.trans (hb5.mono h4.size)
      go_wp2
      go_ret2
      rw [HO.out.1,HO.out.2]
      exact ⟨rfl,HF.out⟩
  · have hr' : At.right k l s t = false := by simpa using hr
    have HR:Hid (At.right k l s t = false):=hr'
    have HO:Hid (At.packOut k l s t = ⟨#[]⟩/\At.packErr k l s t = 70):=⟨by simp [At.packOut,hr'],by simp [At.packErr,hr']⟩
    clear hr hr'
    go_enter Tryz.func46,Tryz.ntmps46
    go_wp2_with fail
    refine (acheck_no k l s t _ HR.out).mono ?_
    rintro e w1 ⟨rfl,rfl⟩
    go_wp2
    go_ret2
    rw [HO.out.1,HO.out.2]
    exact ⟨rfl,((Below.refl _ _).alloc (Nat.le_refl _) _).alloc (by simp) _⟩
theorem four_cells (w:World) (k l s t:Int):(w.alloc (BA k l s t)).heap[w.heap.size]? = some (BA k l s t):=heap_alloc_new w _
theorem four_of {w:World} {b:Nat} {k l s t:Int} (h:w.heap[b]? = some (BA k l s t)):w.cell? ⟨b,0,none⟩ = some (.int .i64 k)/\w.cell? ⟨b,1,none⟩ = some (.int .i64 l)/\w.cell? ⟨b,2,none⟩ = some (.int .i64 s)/\w.cell? ⟨b,3,none⟩ = some (.int .i64 t):=by
  refine ⟨?_,?_,?_,?_⟩ <;> simp [World.cell?,h]
theorem four_below {w w':World} {b B:Nat} {k l s t:Int} (h:w.heap[b]? = some (BA k l s t)) (hb:Below B w w') (hB:b < B):w'.heap[b]? = some (BA k l s t):=(hb.block b hB).trans h
set_option maxHeartbeats 2000000 in
theorem arefPack_any (k l s t:Int) (w:World) (hs:s<=9223372036854775807) (ht:t<=9223372036854775807) (hk:k<=9223372036854775807) (hl:l<=9223372036854775807) :
    Calls Tryz.prog 60 #[VA k l s t] w fun e w'=>e = .returned (.tuple #[.string (At.packOut k l s t),.int .i64 (At.packErr k l s t)])/\Below w.heap.size w w':=by
  by_cases hr:At.right k l s t = true
  · have HO : Hid (At.packOut k l s t = Pl.numOut k 1 ++ Pl.numOut l 1 ++ Pl.numOut s 4 ++ Pl.numOut t 6 ∧ At.packErr k l s t = 0) := ⟨by simp [At.packOut, hr], by simp [At.packErr, hr]⟩
    have HR:Hid (At.right k l s t = true):=hr
    have z1:=Pl.numOut_size k 1
    have z2:=Pl.numOut_size l 1
    have z3:=Pl.numOut_size s 4
    have z4:=Pl.numOut_size t 6
    have HB0:Hid ((w.alloc (BA k l s t)).heap[w.heap.size]? = some (BA k l s t)):=four_cells w k l s t
    clear hr
    go_enter Tryz.func60,Tryz.ntmps60
    go_wp2_with fail
    refine (aright_any k l s t _).mono ?_
    rintro e w1 ⟨rfl,rfl⟩
    rw [HR.out]
    have HB:Hid (Below w.heap.size w ((w.alloc (BA k l s t)).alloc (BA k l s t))/\((w.alloc (BA k l s t)).alloc (BA k l s t)).heap[w.heap.size]? = some (BA k l s t)/\w.heap.size < ((w.alloc (BA k l s t)).alloc (BA k l s t)).heap.size) :=
      ⟨((Below.refl _ _).alloc (Nat.le_refl _) _).alloc (by simp) _,(Below.heap_alloc _ _ _ (by simp)).trans HB0.out,by simp;omega⟩
    obtain ⟨W,hW⟩:∃ W,(w.alloc (BA k l s t)).alloc (BA k l s t) = W:=⟨_,rfl⟩
    rw [hW] at HB
    rw [hW]
    clear hW HB0
    obtain ⟨c0,c1,c2,c3⟩:=four_of HB.out.2.1
    go_wp2_with fail
    refine (refNum_any k 1 _ hk).mono ?_
    rintro e w2 ⟨rfl,hb2⟩
    have HB2:Hid (Below w.heap.size w w2/\w2.heap[w.heap.size]? = some (BA k l s t)/\w.heap.size < w2.heap.size):=⟨HB.out.1.trans (hb2.mono HB.out.1.size),four_below HB.out.2.1 hb2 HB.out.2.2,Nat.lt_of_lt_of_le HB.out.2.2 hb2.size⟩
    clear c0 c1 c2 c3 hb2 HB
    obtain ⟨c0,c1,c2,c3⟩:=four_of HB2.out.2.1
    generalize Pl.numOut k 1 = n1 at *
    go_wp2_with fail
    refine (refNum_any l 1 _ hl).mono ?_
    rintro e w3 ⟨rfl,hb3⟩
    have HB3:Hid (Below w.heap.size w w3/\w3.heap[w.heap.size]? = some (BA k l s t)/\w.heap.size < w3.heap.size):=⟨HB2.out.1.trans (hb3.mono HB2.out.1.size),four_below HB2.out.2.1 hb3 HB2.out.2.2,Nat.lt_of_lt_of_le HB2.out.2.2 hb3.size⟩
    clear c0 c1 c2 c3 hb3 HB2
    obtain ⟨c0,c1,c2,c3⟩:=four_of HB3.out.2.1
    generalize Pl.numOut l 1 = n2 at *
    go_wp2_with fail
    refine (refNum_any s 4 _ hs).mono ?_
    rintro e w4 ⟨rfl,hb4⟩
    have HB4:Hid (Below w.heap.size w w4/\w4.heap[w.heap.size]? = some (BA k l s t)/\w.heap.size < w4.heap.size):=⟨HB3.out.1.trans (hb4.mono HB3.out.1.size),four_below HB3.out.2.1 hb4 HB3.out.2.2,Nat.lt_of_lt_of_le HB3.out.2.2 hb4.size⟩
    clear c0 c1 c2 c3 hb4 HB3
    obtain ⟨c0,c1,c2,c3⟩:=four_of HB4.out.2.1
    generalize Pl.numOut s 4 = n3 at *
    go_wp2_with fail
    refine (refNum_any t 6 _ ht).mono ?_
    rintro e w5 ⟨rfl,hb5⟩
    have HB5:Hid (Below w.heap.size w w5):=HB4.out.1.trans (hb5.mono HB4.out.1.size)
    clear c0 c1 c2 c3 hb5 HB4
    generalize Pl.numOut t 6 = n4 at *
    go_wp2
    go_ret2
    rw [HO.out.1,HO.out.2]
    exact ⟨rfl,HB5.out⟩
  · have hr' : At.right k l s t = false := by simpa using hr
    have HR:Hid (At.right k l s t = false):=hr'
    have HO:Hid (At.packOut k l s t = ⟨#[]⟩/\At.packErr k l s t = 70):=⟨by simp [At.packOut,hr'],by simp [At.packErr,hr']⟩
    clear hr hr'
    go_enter Tryz.func60,Tryz.ntmps60
    go_wp2_with fail
    refine (aright_any k l s t _).mono ?_
    rintro e w1 ⟨rfl,rfl⟩
    rw [HR.out]
    go_wp2
    go_ret2
    rw [HO.out.1,HO.out.2]
    exact ⟨rfl,((Below.refl _ _).alloc (Nat.le_refl _) _).alloc (by simp) _⟩
/-- What Unpack tells. -/
def At.k (S:ByteArray):Int:=Pl.numVal (S.extract 0 1)
def At.l (S:ByteArray):Int:=Pl.numVal (S.extract 1 2)
def At.s (S:ByteArray):Int:=Pl.numVal (S.extract 2 6)
def At.t (S:ByteArray):Int:=Pl.numVal (S.extract 6 S.size)
def At.unpErr (S:ByteArray):Int:=if S.size = 12 then (if At.right (At.k S) (At.l S) (At.s S) (At.t S) then 0 else 70) else 4
def At.unpOut (S:ByteArray):Value:=if At.unpErr S = 0 then VA (At.k S) (At.l S) (At.s S) (At.t S) else VA 0 0 0 0
set_option maxHeartbeats 2000000 in
theorem aunpack_any (S : ByteArray) (w : World) :
    Calls Tryz.prog 74 #[.string S] w fun e w'=>e = .returned (.tuple #[At.unpOut S,.int .i64 (At.unpErr S)])/\Below w.heap.size w w':=by
  by_cases h12:S.size = 12
  · have e1 : (S.extract 0 1).size ≤ maxLen := by rw [ByteArray.size_extract]; unfold maxLen; omega
    have e2:(S.extract 1 2).size<=maxLen:=by rw [ByteArray.size_extract];unfold maxLen;omega
    have e3:(S.extract 2 6).size<=maxLen:=by rw [ByteArray.size_extract];unfold maxLen;omega
    have e4:(S.extract 6 12).size<=maxLen:=by rw [ByteArray.size_extract];unfold maxLen;omega
    have HE:Hid (((S.extract 0 1).size<=maxLen/\(S.extract 1 2).size<=maxLen)/\(S.extract 2 6).size<=maxLen/\(S.extract 6 12).size<=maxLen):=⟨⟨e1,e2⟩,e3,e4⟩
    clear e1 e2 e3 e4
    have HU:Hid (At.unpErr S = (if At.right (Pl.numVal (S.extract 0 1)) (Pl.numVal (S.extract 1 2)) (Pl.numVal (S.extract 2 6)) (Pl.numVal (S.extract 6 12)) then 0 else 70)/\At.unpOut S = if At.unpErr S = 0 then VA (Pl.numVal (S.extract 0 1)) (Pl.numVal (S.extract 1 2)) (Pl.numVal (S.extract 2 6)) (Pl.numVal (S.extract 6 12)) else VA 0 0 0 0):=by
      refine ⟨?_,?_⟩
      · unfold At.unpErr At.k At.l At.s At.t
        rw [if_pos h12,h12]
      · unfold At.unpOut At.k At.l At.s At.t
        rw [h12]
    go_enter Tryz.func74,Tryz.ntmps74
    go_wp2
    go_region_held3 (fun _=>True) (trivial) (first
      | (go_at_call_of 106 (Value.string (S.extract 0 1));refine (anumber_s _ _ HE.out.1.1).mono ?_;rintro e w1 ⟨rfl,rfl⟩)
      | (go_at_call_of 106 (Value.string (S.extract 1 2));refine (anumber_s _ _ HE.out.1.2).mono ?_;rintro e w1 ⟨rfl,rfl⟩)
      | (go_at_call_of 106 (Value.string (S.extract 2 6));refine (anumber_s _ _ HE.out.2.1).mono ?_;rintro e w1 ⟨rfl,rfl⟩)
      | (go_at_call_of 106 (Value.string (S.extract 6 12));refine (anumber_s _ _ HE.out.2.2).mono ?_;rintro e w1 ⟨rfl,rfl⟩))
    all_goals
      generalize Pl.numVal (S.extract 0 1) = k at HU ⊢
      generalize Pl.numVal (S.extract 1 2) = l at HU ⊢
      generalize Pl.numVal (S.extract 2 6) = s at HU ⊢
      generalize Pl.numVal (S.extract 6 12) = t at HU ⊢
      by_cases hr:At.right k l s t = true
      · have HR : Hid (At.right k l s t = true) := hr
        have H:Hid (At.unpOut S = VA k l s t/\At.unpErr S = 0):=by
          have h2:=HU.out.1
          rw [if_pos hr] at h2
          have h1:=HU.out.2
          rw [h2,if_pos rfl] at h1
          exact ⟨h1,h2⟩
        clear hr HU HE
        go_wp2_with fail
        refine (acheck_yes k l s t _ HR.out).mono ?_
        rintro e w1 ⟨rfl,rfl⟩
        go_wp2
        refine bodyPost_ret (v:=.tuple #[VA k l s t,.int .i64 0]) (by simp [results,Tryz.results74,go_sem]) rfl ⟨?_,?_⟩
        · rw [H.out.1,H.out.2]
        · exact ((((Below.refl _ _).alloc (Nat.le_refl _) _).alloc (by simp) _).drew).alloc (by simp;omega) _
      · have hr' : At.right k l s t = false := by simpa using hr
        have HR:Hid (At.right k l s t = false):=hr'
        have H:Hid (At.unpOut S = VA 0 0 0 0/\At.unpErr S = 70):=by
          have h2:=HU.out.1
          rw [if_neg hr] at h2
          have h1:=HU.out.2
          rw [h2,if_neg (by decide)] at h1
          exact ⟨h1,h2⟩
        clear hr hr' HU HE
        go_wp2_with fail
        refine (acheck_no k l s t _ HR.out).mono ?_
        rintro e w1 ⟨rfl,rfl⟩
        go_wp2
        refine bodyPost_ret (v:=.tuple #[VA 0 0 0 0,.int .i64 70]) (by simp [results,Tryz.results74,go_sem]) rfl ⟨?_,?_⟩
        · rw [H.out.1,H.out.2]
        · exact ((((Below.refl _ _).alloc (Nat.le_refl _) _).alloc (by simp) _).drew).alloc (by simp;omega) _
  · have H : Hid (At.unpOut S = VA 0 0 0 0 ∧ At.unpErr S = 4) := ⟨by simp [At.unpOut, At.unpErr, h12], by simp [At.unpErr, h12]⟩
    have h12':((S.size:Int) == 12) = false:=beq_eq_false_iff_ne.2 (by omega)
    clear h12
    rw [H.out.1,H.out.2]
    go_enter Tryz.func74,Tryz.ntmps74
    go_wp2
    exact bodyPost_ret (v:=.tuple #[VA 0 0 0 0,.int .i64 4]) (by simp [results,Tryz.results74,go_sem]) rfl ⟨rfl,(Below.refl _ _).alloc (Nat.le_refl _) _⟩
theorem one_byte (S:ByteArray) (i:Nat) (h:i < S.size):Pl.numVal (S.extract i (i + 1)) = ((S[i]'h).toNat:Int):=by
  have hl:(S.extract i (i + 1)).data.toList = [S[i]'h]:=by
    have h2:i < S.data.size:=h
    rw [show (S.extract i (i + 1)).data = S.data.extract i (i + 1) from by simp]
    rw [Array.toList_extract,List.extract_eq_take_drop,List.drop_eq_getElem_cons (by simpa using h2)]
    simp
    rfl
  have hz:(S.extract i (i + 1)).size = 1:=by rw [ByteArray.size_extract];omega
  unfold Pl.numVal Pl.sNum Pl.fNum Pl.numOf
  rw [hl,hz]
  simp
set_option maxHeartbeats 2000000 in
theorem arefUnpack_any (S : ByteArray) (w : World) :
    Calls Tryz.prog 33 #[.string S] w fun e w'=>e = .returned (.tuple #[At.unpOut S,.int .i64 (At.unpErr S)])/\Below w.heap.size w w':=by
  by_cases h12:S.size = 12
  · have e3 : (S.extract 2 6).size ≤ maxLen := by rw [ByteArray.size_extract]; unfold maxLen; omega
    have e4:(S.extract 6 12).size<=maxLen:=by rw [ByteArray.size_extract];unfold maxLen;omega
    have HE:Hid ((S.extract 2 6).size<=maxLen/\(S.extract 6 12).size<=maxLen):=⟨e3,e4⟩
    clear e3 e4
    have p0:0 < S.size:=by omega
    have p1:1 < S.size:=by omega
    have HU:Hid (At.unpErr S = (if At.right ((S[0]'p0).toNat:Int) ((S[1]'p1).toNat:Int) (Pl.numVal (S.extract 2 6)) (Pl.numVal (S.extract 6 12)) then 0 else 70)/\At.unpOut S = if At.unpErr S = 0 then VA ((S[0]'p0).toNat:Int) ((S[1]'p1).toNat:Int) (Pl.numVal (S.extract 2 6)) (Pl.numVal (S.extract 6 12)) else VA 0 0 0 0):=by
      have q0:=one_byte S 0 p0
      have q1:=one_byte S 1 p1
      refine ⟨?_,?_⟩
      · unfold At.unpErr At.k At.l At.s At.t
        rw [if_pos h12,← q0,← q1,h12]
      · unfold At.unpOut At.k At.l At.s At.t
        rw [← q0,← q1,h12]
    have b0:(S[0]'p0).toNat < 256:=(S[0]'p0).toNat_lt
    have b1:(S[1]'p1).toNat < 256:=(S[1]'p1).toNat_lt
    go_enter Tryz.func33,Tryz.ntmps33
    go_wp2_with fail
    refine (refNumber_any _ _ HE.out.1).mono ?_
    rintro e w1 ⟨rfl,rfl⟩
    go_wp2_with fail
    refine (refNumber_any _ _ HE.out.2).mono ?_
    rintro e w1 ⟨rfl,rfl⟩
    generalize Pl.numVal (S.extract 2 6) = s at HU ⊢
    generalize Pl.numVal (S.extract 6 12) = t at HU ⊢
    go_wp2
    go_region
    all_goals
      generalize ((S[0]'p0).toNat:Int) = k at HU ⊢
      generalize ((S[1]'p1).toNat:Int) = l at HU ⊢
      by_cases hr:At.right k l s t = true
      · have HR : Hid (At.right k l s t = true) := hr
        have H:Hid (At.unpOut S = VA k l s t/\At.unpErr S = 0):=by
          have h2:=HU.out.1
          rw [if_pos hr] at h2
          have h1:=HU.out.2
          rw [h2,if_pos rfl] at h1
          exact ⟨h1,h2⟩
        clear hr HU HE
        go_wp2_with fail
        refine (aright_any k l s t _).mono ?_
        rintro e w1 ⟨rfl,rfl⟩
        rw [HR.out]
        go_wp2
        refine bodyPost_ret (v:=.tuple #[VA k l s t,.int .i64 0]) (by simp [results,Tryz.results33,go_sem]) rfl ⟨?_,?_⟩
        · rw [H.out.1,H.out.2]
        · exact ((((Below.refl _ _).alloc (Nat.le_refl _) _).alloc (by simp) _).drew).alloc (by simp;omega) _
      · have hr' : At.right k l s t = false := by simpa using hr
        have HR:Hid (At.right k l s t = false):=hr'
        have H:Hid (At.unpOut S = VA 0 0 0 0/\At.unpErr S = 70):=by
          have h2:=HU.out.1
          rw [if_neg hr] at h2
          have h1:=HU.out.2
          rw [h2,if_neg (by decide)] at h1
          exact ⟨h1,h2⟩
        clear hr hr' HU HE
        go_wp2_with fail
        refine (aright_any k l s t _).mono ?_
        rintro e w1 ⟨rfl,rfl⟩
        rw [HR.out]
        go_wp2
        refine bodyPost_ret (v:=.tuple #[VA 0 0 0 0,.int .i64 70]) (by simp [results,Tryz.results33,go_sem]) rfl ⟨?_,?_⟩
        · rw [H.out.1,H.out.2]
        · exact ((((Below.refl _ _).alloc (Nat.le_refl _) _).alloc (by simp) _).drew).alloc (by simp;omega) _
  · have H : Hid (At.unpOut S = VA 0 0 0 0 ∧ At.unpErr S = 4) := ⟨by simp [At.unpOut, At.unpErr, h12], by simp [At.unpErr, h12]⟩
    have h12':((S.size:Int) == 12) = false:=beq_eq_false_iff_ne.2 (by omega)
    clear h12
    rw [H.out.1,H.out.2]
    go_enter Tryz.func33,Tryz.ntmps33
    go_wp2
    exact bodyPost_ret (v:=.tuple #[VA 0 0 0 0,.int .i64 4]) (by simp [results,Tryz.results33,go_sem]) rfl ⟨rfl,(Below.refl _ _).alloc (Nat.le_refl _) _⟩
end Go.Proofs.YtggoccfddnpelaaGreat.Ks.Rs
namespace Go.Proofs.YtggoccfddnpelaaGreat.Ks.Rs
set_option maxRecDepth 100000
namespace Pl
open Go.Proofs.YtggoccfddnpelaaGreat.Ks.Pl
theorem numOf_acc (l:List UInt8):∀ a:Nat,l.foldl (fun n b=>256 * n + b.toNat) a = a * 256 ^ l.length + numOf l:=by
  induction l with
  | nil=>intro a;simp [numOf]
  | cons b l ih =>
    intro a
    have h1:=ih (256 * a + b.toNat)
    have h2:=ih (256 * 0 + b.toNat)
    have e:numOf (b :: l) = l.foldl (fun n b=>256 * n + b.toNat) (256 * 0 + b.toNat):=rfl
    rw [List.foldl_cons,h1,e,h2,List.length_cons,Nat.pow_succ]
    generalize 256 ^ l.length = p
    rw [Nat.mul_comm p 256,← Nat.mul_assoc,Nat.add_mul,Nat.add_mul,Nat.mul_zero,Nat.zero_mul,Nat.zero_add,Nat.mul_comm a 256,Nat.add_assoc]
theorem numOf_cons (b:UInt8) (l:List UInt8):numOf (b :: l) = b.toNat * 256 ^ l.length + numOf l:=by
  have:=numOf_acc l (256 * 0 + b.toNat)
  simpa [numOf] using this
theorem numOf_digits (m:Nat):∀ k,numOf (digits k m) = m % 256 ^ k
  | 0=>by simp [digits_zero,numOf,Nat.mod_one]
  | k + 1 => by
    rw [digits_succ,numOf_cons,numOf_digits m k,digits_length,Nat.pow_succ,Nat.mod_mul,UInt8.toNat_ofNat']
    have:m / 256 ^ k % 256 % 2 ^ 8 = m / 256 ^ k % 256:=Nat.mod_eq_of_lt (by omega)
    rw [this,Nat.mul_comm,Nat.add_comm]
theorem num_back {n size:Int} (hn:n<=9223372036854775807) (h:numErr n size = 0) :
    numVal (numOut n size) = n/\numberErr (numOut n size) = 0/\((numOut n size).size:Int) = size:=by
  have hb:numBad n size = false:=by
    cases hc:numBad n size with
    | false=>rfl
    | true=>simp [numErr,hc] at h
  have ho:numOut n size = txt (digits size.toNat n.toNat):=by simp [numOut,hb]
  simp only [numBad,Bool.or_eq_false_iff,decide_eq_false_iff_not,Classical.not_not] at hb
  obtain ⟨h1,h2⟩:=hb
  obtain ⟨m,rfl⟩:=Int.eq_ofNat_of_zero_le (show 0<=n by omega)
  obtain ⟨z,rfl⟩:=Int.eq_ofNat_of_zero_le (show 0<=size by omega)
  rw [Int.toNat_natCast,Int.toNat_natCast] at ho h2
  have hlt:m < 256 ^ z:=by
    rcases Nat.lt_or_ge m (256 ^ z) with h' | h'
    · exact h'
    · have:=Nat.div_pos h' (Nat.pow_pos (by decide));omega
  have hsz:(txt (digits z m)).size = z:=by rw [txt_size,digits_length]
  have hS:sNum (txt (digits z m)) = false:=by simp only [sNum,hsz,decide_eq_false_iff_not];omega
  have hF:fNum (txt (digits z m)) = false:=by
    unfold fNum
    rw [hsz,txt_data]
    by_cases h8:z = 8
    · subst h8
      have e:(digits 8 m).headD 0 = UInt8.ofNat (m / 256 ^ 7 % 256):=by rw [digits_succ];rfl
      have e7:(256:Nat) ^ 7 = 72057594037927936:=by decide
      rw [e,UInt8.toNat_ofNat',e7]
      simp
      omega
    · simp [h8]
  refine ⟨?_,?_,?_⟩
  · rw [ho,numVal,hS,hF,txt_data,numOf_digits,Nat.mod_eq_of_lt hlt];rfl
  · rw [ho,numberErr,hS,hF];rfl
  · rw [ho,hsz]
end Pl
theorem Pl.fits {n size:Int} (h0:0<=n) (h1:1<=size) (h2:size<=8) (h3:n.toNat < 256 ^ size.toNat):Pl.numErr n size = 0:=by
  have hb:Pl.numBad n size = false:=by
    unfold Pl.numBad
    rw [Nat.div_eq_of_lt h3]
    simp
    omega
  simp [Pl.numErr,hb]
theorem At.pack_parts {k l s t:Int} (h:At.right k l s t = true):At.packOut k l s t = Pl.numOut k 1 ++ Pl.numOut l 1 ++ Pl.numOut s 4 ++ Pl.numOut t 6/\(Pl.numVal (Pl.numOut k 1) = k/\(Pl.numOut k 1).size = 1)/\(Pl.numVal (Pl.numOut l 1) = l/\(Pl.numOut l 1).size = 1)/\(Pl.numVal (Pl.numOut s 4) = s/\(Pl.numOut s 4).size = 4)/\(Pl.numVal (Pl.numOut t 6) = t/\(Pl.numOut t 6).size = 6):=by
  have hp:=At.right_iff.1 h
  unfold At.rightP at hp
  have e1:(256:Nat) ^ (1:Int).toNat = 256:=by decide
  have e4:(256:Nat) ^ (4:Int).toNat = 4294967296:=by decide
  have e6:(256:Nat) ^ (6:Int).toNat = 281474976710656:=by decide
  obtain ⟨a1,_,a2⟩:=Pl.num_back (n:=k) (size:=1) (by omega) (Pl.fits (by omega) (by decide) (by decide) (by rw [e1];omega))
  obtain ⟨b1,_,b2⟩:=Pl.num_back (n:=l) (size:=1) (by omega) (Pl.fits (by omega) (by decide) (by decide) (by rw [e1];omega))
  obtain ⟨c1,_,c2⟩:=Pl.num_back (n:=s) (size:=4) (by omega) (Pl.fits (by omega) (by decide) (by decide) (by rw [e4];omega))
  obtain ⟨d1,_,d2⟩:=Pl.num_back (n:=t) (size:=6) (by omega) (Pl.fits (by omega) (by decide) (by decide) (by rw [e6];omega))
  refine ⟨by simp [At.packOut,h],⟨a1,by omega⟩,⟨b1,by omega⟩,⟨c1,by omega⟩,⟨d1,by omega⟩⟩
theorem Pl.cut_mid (a b c:ByteArray) (i j:Nat) (hi:a.size = i) (hj:a.size + b.size = j):(a ++ b ++ c).extract i j = b:=by
  rw [Pl.extract_txt]
  have e:(a ++ b ++ c).data.toList = a.data.toList ++ b.data.toList ++ c.data.toList:=by simp
  have la:a.data.toList.length = i:=by rw [← hi];simp
  have lb:b.data.toList.length = j - i:=by rw [← hj,← hi];simp
  rw [e,List.append_assoc,List.drop_left' la,List.take_left' lb,Pl.txt_toList]
theorem Pl.ba_assoc (a b c:ByteArray):a ++ b ++ c = a ++ (b ++ c):=ByteArray.append_assoc
theorem Pl.ba_nil (a:ByteArray):⟨#[]⟩ ++ a = a:=by
  apply ByteArray.ext
  simp
theorem Pl.ba_nil' (a:ByteArray):a ++ ⟨#[]⟩ = a:=by
  apply ByteArray.ext
  simp
theorem At.back {k l s t:Int} (h:At.right k l s t = true):(At.packOut k l s t).size = 12/\At.unpErr (At.packOut k l s t) = 0/\At.unpOut (At.packOut k l s t) = VA k l s t:=by
  obtain ⟨hp,⟨a1,a2⟩,⟨b1,b2⟩,⟨c1,c2⟩,⟨d1,d2⟩⟩:=At.pack_parts h
  rw [hp]
  generalize Pl.numOut k 1 = A at *
  generalize Pl.numOut l 1 = B at *
  generalize Pl.numOut s 4 = C at *
  generalize Pl.numOut t 6 = D at *
  have hsz:(A ++ B ++ C ++ D).size = 12:=by simp only [ByteArray.size_append];omega
  have x0:(A ++ B ++ C ++ D).extract 0 1 = A:=by
    have:=Pl.cut_mid ⟨#[]⟩ A (B ++ (C ++ D)) 0 1 rfl (by rw [a2];rfl)
    rw [Pl.ba_nil] at this
    rw [Pl.ba_assoc,Pl.ba_assoc,this]
  have x1:(A ++ B ++ C ++ D).extract 1 2 = B:=by
    have:=Pl.cut_mid A B (C ++ D) 1 2 a2 (by omega)
    rw [Pl.ba_assoc (A ++ B),this]
  have x2:(A ++ B ++ C ++ D).extract 2 6 = C:=Pl.cut_mid (A ++ B) C D 2 6 (by simp only [ByteArray.size_append];omega) (by simp only [ByteArray.size_append];omega)
  have x3:(A ++ B ++ C ++ D).extract 6 12 = D:=by
    have:=Pl.cut_mid (A ++ B ++ C) D ⟨#[]⟩ 6 12 (by simp only [ByteArray.size_append];omega) (by simp only [ByteArray.size_append];omega)
    rw [Pl.ba_nil'] at this
    exact this
  have hk:At.k (A ++ B ++ C ++ D) = k:=by unfold At.k;rw [x0,a1]
  have hl:At.l (A ++ B ++ C ++ D) = l:=by unfold At.l;rw [x1,b1]
  have hs:At.s (A ++ B ++ C ++ D) = s:=by unfold At.s;rw [x2,c1]
  have ht:At.t (A ++ B ++ C ++ D) = t:=by unfold At.t;rw [hsz,x3,d1]
  have he:At.unpErr (A ++ B ++ C ++ D) = 0:=by unfold At.unpErr;rw [if_pos hsz,hk,hl,hs,ht,if_pos h]
  refine ⟨hsz,he,?_⟩
  unfold At.unpOut
  rw [if_pos he,hk,hl,hs,ht]
namespace Nm
/-- No byte that may not be, up to p. -/
def clean (s:ByteArray) (p:Nat):Prop:=∀ i (h:i < s.size),i < p->(s[i]'h).toNat≠47/\(s[i]'h).toNat≠0
def ok (s:ByteArray):Prop:=1<=s.size/\s.size<=32/\s≠⟨#[46]⟩/\s≠⟨#[46,46]⟩/\clean s s.size
/-- The same, decided. -/
def okB (s:ByteArray):Bool:=decide (1<=s.size) && (decide (s.size<=32) && (!(s.data.toList == [46]) && (!(s.data.toList == [46,46]) && s.data.toList.all fun b=>b.toNat != 47 && b.toNat != 0)))
theorem bytes_eq {s:ByteArray} {a:Array UInt8}:s = ⟨a⟩ ↔ s.data.toList = a.toList:=⟨fun h=>by rw [h],fun h=>by cases s;simp only [ByteArray.mk.injEq];exact Array.toList_inj.1 h⟩
theorem okB_iff {s:ByteArray}:okB s = true ↔ ok s:=by
  unfold okB ok clean
  simp only [Bool.and_eq_true,decide_eq_true_eq,Bool.not_eq_true',beq_eq_false_iff_ne,List.all_eq_true,bne_iff_ne,ne_eq]
  refine and_congr Iff.rfl (and_congr Iff.rfl (and_congr (not_congr bytes_eq.symm) (and_congr (not_congr bytes_eq.symm) ?_)))
  constructor
  · intro h i hi _
    have hm:s[i]'hi∈s.data.toList:=by
      have:s[i]'hi = s.data[i]'hi:=rfl
      rw [this]
      exact Array.getElem_mem_toList _
    exact h _ hm
  · intro h b hb
    obtain ⟨i,hi,rfl⟩:=List.getElem_of_mem hb
    have hi':i < s.size:=by rw [Array.length_toList] at hi;exact hi
    have:=h i hi' hi'
    rw [Array.getElem_toList]
    exact this
def err (s:ByteArray):Int:=if okB s then 0 else 409
theorem err_ok {s:ByteArray} (h:ok s):err s = 0:=by unfold err;rw [if_pos (okB_iff.2 h)]
theorem err_no {s:ByteArray} (h:¬ ok s):err s = 409:=by unfold err;rw [if_neg fun e=>h (okB_iff.1 e)]
theorem err_or (s:ByteArray):(err s = 0/\ok s)∨(err s = 409/\¬ ok s):=by
  by_cases h:ok s
  · exact .inl ⟨err_ok h,h⟩
  · exact .inr ⟨err_no h,h⟩
theorem clean_zero (s:ByteArray):clean s 0:=fun i _ h=>by omega
theorem clean_bad {s:ByteArray} {p:Nat} (h:p < s.size) (hb:(s[p]'h).toNat = 47∨(s[p]'h).toNat = 0):¬ ok s:=fun hk=>by
  have:=hk.2.2.2.2 p h h
  rcases hb with hb | hb
  · exact this.1 hb
  · exact this.2 hb
theorem clean_succ {s:ByteArray} {p:Nat} (h:p < s.size) (hc:clean s p) (h1:(s[p]'h).toNat≠47) (h2:(s[p]'h).toNat≠0):clean s (p + 1):=fun i hi hl=>by
  by_cases e:i = p
  · subst e
    exact ⟨h1,h2⟩
  · exact hc i hi (by omega)
theorem get_tail (s:ByteArray) (i:Nat) (h:i < s.size):s.get! i = s[i]'h:=by
  simp [ByteArray.get!,getElem!_pos,h]
  rfl
/-- What a decode jumps over lies within the text and is 128 or more. -/
theorem decode_skip (s:ByteArray) (pos:Nat) (h:pos < s.size):1<=(Utf8.decode s pos).2/\pos + (Utf8.decode s pos).2<=s.size/\∀ k,1<=k->k < (Utf8.decode s pos).2->128<=(s.get! (pos + k)).toNat:=by
  by_cases ha:(s[pos]'h).toNat < 128
  · rw [decode_ascii s pos h ha]
    exact ⟨Nat.le_refl _,h,fun k h1 h2=>by simp at h2;omega⟩
  · simp only [Utf8.decode, get_at s pos h, ha, if_false]
    generalize h1:(s.get! (pos + 1)).toNat = b1
    generalize h2:(s.get! (pos + 2)).toNat = b2
    generalize h3:(s.get! (pos + 3)).toNat = b3
    have one:∀ k,1<=k->k < 1->128<=(s.get! (pos + k)).toNat:=fun k _ _=>by omega
    repeat' split
    all_goals simp only [Bool.and_eq_true,decide_eq_true_eq,beq_iff_eq] at *
    all_goals refine ⟨by decide,by omega,?_⟩
    all_goals first
      | exact one
      | (intro k hk1 hk2
         have hk:k = 1∨k = 2∨k = 3:=by omega
         rcases hk with rfl | rfl | rfl
         · rw [h1];omega
         · rw [h2];omega
         · rw [h3];omega)
theorem decode_bad (s:ByteArray) (pos:Nat) (h:pos < s.size):((Utf8.decode s pos).1 = 47 ↔ (s[pos]'h).toNat = 47)/\((Utf8.decode s pos).1 = 0 ↔ (s[pos]'h).toNat = 0):=by
  by_cases ha:(s[pos]'h).toNat < 128
  · rw [decode_ascii s pos h ha]
    exact ⟨Iff.rfl,Iff.rfl⟩
  · have := (decode_high s pos h (by omega)).1
    constructor <;> constructor <;> intro h' <;> omega
theorem clean_jump {s:ByteArray} {p:Nat} (h:p < s.size) (hc:clean s p) (h1:(Utf8.decode s p).1≠47) (h2:(Utf8.decode s p).1≠0):clean s (p + (Utf8.decode s p).2):=fun i hi hl=>by
  obtain ⟨hb1,hb2⟩:=decode_bad s p h
  by_cases e:i < p
  · exact hc i hi e
  · by_cases e2 : i = p
    · subst e2
      exact ⟨fun h'=>h1 (hb1.2 h'),fun h'=>h2 (hb2.2 h')⟩
    · have := (decode_skip s p h).2.2 (i - p) (by omega) (by omega)
      rw [show p + (i - p) = i by omega,get_tail s i hi] at this
      constructor <;> omega
end Nm
abbrev Ent:=ByteArray × Int × Int × Int
def EE:Enc Ent:=⟨4,fun x=>[.string x.1,.int .i64 x.2.1,.int .i64 x.2.2.1,.int .i64 x.2.2.2],fun _=>rfl,fun x u hu=>by
  simp at hu
  rcases hu with rfl | rfl | rfl | rfl <;> rfl⟩
end Go.Proofs.YtggoccfddnpelaaGreat.Ks.Rs
