/- The walks of layer 5: an outcome is offered. -/
import Derived.Test.YtgdidhbomdfcpaaF13
import Derived.Test.YtgdidhbomdfcpaaLF
namespace Go.Proofs.Ytgdidhbomdfcpaa
open Go.RowKit Go.Maps
attribute [local go_sem] Oper.semAt_some

/-- A choice. -/
abbrev choA (q : Option Addr) (n c : Nat) (pr : Option Addr) (nr cr : Nat) (ph : Option Addr) (nh ch : Nat) (sm : Bool) (f : Nat) : Array Value := #[.slice q n c, .slice pr nr cr, .slice ph nh ch, .bool sm, .func (.func f) #[] #[]]
theorem FromB.drewN {b : Nat} {W w : World} (h : FromB b W w) (n : Nat) : FromB b W (w.drewN n) := ⟨⟨h.k.os, h.k.tape, h.k.output, h.k.size, h.k.block⟩⟩
/-- Some call is made, and the choice is then such a one. -/
def Offered (cb : Nat) (cs : Array Value) (w : World) (e : Ending) (w' : World) : Prop := (∃ v, e = .returned v) ∧ Row w' cb cs 116 ∧ FromB cb w w'
section
variable {cb : Nat} {q : Option Addr} {n c : Nat} {pr : Option Addr} {nr cr : Nat} {ph : Option Addr} {nh ch : Nat} {sm : Bool} {f : Nat} {t : TypeId}
theorem cho_sets {W : World} (h : Row W cb (choA q n c pr nr cr ph nh ch sm f) t) (q' : Option Addr) (n' c' : Nat) (pr' : Option Addr) (nr' cr' : Nat) (ph' : Option Addr) (nh' ch' : Nat) :
    Row ((((W.setCell ⟨cb, 0, none⟩ (.slice q' n' c')).setCell ⟨cb, 1, none⟩ (.slice pr' nr' cr')).setCell ⟨cb, 2, none⟩ (.slice ph' nh' ch')).setCell ⟨cb, 3, none⟩ (.bool true)) cb (choA q' n' c' pr' nr' cr' ph' nh' ch' true f) t :=
  by have e := (((h.set 0 (.slice q' n' c')).set 1 (.slice pr' nr' cr')).set 2 (.slice ph' nh' ch')).set 3 (.bool true); simpa using e
theorem from_sets {w W : World} (h : FromB cb w W) (v0 v1 v2 v3 : Value) : FromB cb w ((((W.setCell ⟨cb, 0, none⟩ v0).setCell ⟨cb, 1, none⟩ v1).setCell ⟨cb, 2, none⟩ v2).setCell ⟨cb, 3, none⟩ v3) :=
  (((h.set _ _).set _ _).set _ _).set _ _
end
set_option maxRecDepth 10000 in
set_option maxHeartbeats 1600000 in
theorem offer_first (cb : Nat) (q : Option Addr) (n c : Nat) (pr : Option Addr) (nr cr : Nat) (ph : Option Addr) (nh ch : Nat) (q' : Option Addr) (n' c' : Nat) (pr' : Option Addr) (nr' cr' : Nat) (ph' : Option Addr) (nh' ch' : Nat) (f : Nat) (w : World) (hr : Row w cb (choA q n c pr nr cr ph nh ch false f) 116) :
    Calls Try.prog 101 #[.pointer (some ⟨cb, 0, none⟩), .agg (outA q' n' c' pr' nr' cr' ph' nh' ch')] w (Offered cb (choA q' n' c' pr' nr' cr' ph' nh' ch' true f) w) := by
  have hz := hr.lt
  have HR := Lib.hid (hr.alloc (.cells (outA q' n' c' pr' nr' cr' ph' nh' ch') 90))
  have HF := Lib.hid ((FromB.refl cb w).alloc (.cells (outA q' n' c' pr' nr' cr' ph' nh' ch') 90))
  have c0 := HR.out.cell 0 (v := .slice q n c) rfl
  have c1 := HR.out.cell 1 (v := .slice pr nr cr) rfl
  have c2 := HR.out.cell 2 (v := .slice ph nh ch) rfl
  have c3 := HR.out.cell 3 (v := .bool false) rfl
  have c4 := HR.out.cell 4 (v := .func (.func f) #[] #[]) rfl
  have f0 := HR.out.free 0
  have f1 := HR.out.free 1
  have f2 := HR.out.free 2
  have f3 := HR.out.free 3
  clear hr
  go_enter Try.func101, Try.ntmps101
  go_wp2_with fail
  go_quiet (fail)
  go_wp2_with fail
  go_end0
  exact ⟨⟨_, rfl⟩, cho_sets (HR.out.drewN _) _ _ _ _ _ _ _ _ _, from_sets (HF.out.drewN _) _ _ _ _⟩
set_option maxRecDepth 10000 in
set_option maxHeartbeats 1600000 in
theorem offer_quicker (cb : Nat) (q : Option Addr) (n c : Nat) (pr : Option Addr) (nr cr : Nat) (ph : Option Addr) (nh ch : Nat) (q' : Option Addr) (n' c' : Nat) (pr' : Option Addr) (nr' cr' : Nat) (ph' : Option Addr) (nh' ch' : Nat) (w : World) (hr : Row w cb (choA q n c pr nr cr ph nh ch true 81) 116) (d : Bool) (hd : (if nh' = nh then decide (n < n') else decide (nh' < nh)) = d) :
    Calls Try.prog 101 #[.pointer (some ⟨cb, 0, none⟩), .agg (outA q' n' c' pr' nr' cr' ph' nh' ch')] w (Offered cb (if d then choA q' n' c' pr' nr' cr' ph' nh' ch' true 81 else choA q n c pr nr cr ph nh ch true 81) w) := by
  have HC := Lib.hid (fun w' => (by have h := quicker_any q' n' c' pr' nr' cr' ph' nh' ch' q n c pr nr cr ph nh ch w'; rw [hd] at h; exact h : Calls Try.prog 81 #[.agg (outA q' n' c' pr' nr' cr' ph' nh' ch'), .agg (outA q n c pr nr cr ph nh ch)] w' fun e w'' => e = .returned (.bool d) ∧ Below w'.heap.size w' w''))
  have hz := hr.lt
  have HR := Lib.hid (hr.alloc (.cells (outA q' n' c' pr' nr' cr' ph' nh' ch') 90))
  have HF := Lib.hid ((FromB.refl cb w).alloc (.cells (outA q' n' c' pr' nr' cr' ph' nh' ch') 90))
  have HQ := Lib.hid (Row.new w (outA q' n' c' pr' nr' cr' ph' nh' ch') 90)
  clear hr hd
  cases d
  all_goals
    go_enter Try.func101, Try.ntmps101
    go_wp2_with fail
    generalize w.alloc (.cells (outA q' n' c' pr' nr' cr' ph' nh' ch') 90) = W1 at *
    have c0 := HR.out.cell 0 (v := .slice q n c) rfl
    have c1 := HR.out.cell 1 (v := .slice pr nr cr) rfl
    have c2 := HR.out.cell 2 (v := .slice ph nh ch) rfl
    have c3 := HR.out.cell 3 (v := .bool true) rfl
    have c4 := HR.out.cell 4 (v := .func (.func 81) #[] #[]) rfl
    have q0 := HQ.out.cell 0 (v := .slice q' n' c') rfl
    have q1 := HQ.out.cell 1 (v := .slice pr' nr' cr') rfl
    have q2 := HQ.out.cell 2 (v := .slice ph' nh' ch') rfl
    refine wp_region_later (by kernel_rfl) (by kernel_rfl) ?_
    repeat (go_big_quiet_step (first
      | (go_at_call 81; with_reducible exact Calls.later_of (HC.out _))))
    refine wpQuiet_nil ?_
    intro _ hw'
    obtain ⟨y, hw''⟩ := hw'
    subst hw''
    have RY := Lib.hid (y.fr.row HR.out)
    have HY := Lib.hid (HF.out.below y.b)
    have f0 := RY.out.free 0
    have f1 := RY.out.free 1
    have f2 := RY.out.free 2
    have f3 := RY.out.free 3
    go_wp2_with fail
    go_end0
    first
      | exact ⟨⟨_, rfl⟩, RY.out, HY.out⟩
      | exact ⟨⟨_, rfl⟩, cho_sets RY.out _ _ _ _ _ _ _ _ _, from_sets HY.out _ _ _ _⟩
set_option maxRecDepth 10000 in
set_option maxHeartbeats 1600000 in
theorem offer_surer (cb : Nat) (q : Option Addr) (n c : Nat) (pr : Option Addr) (nr cr : Nat) (ph : Option Addr) (nh ch : Nat) (q' : Option Addr) (n' c' : Nat) (pr' : Option Addr) (nr' cr' : Nat) (ph' : Option Addr) (nh' ch' : Nat) (w : World) (hr : Row w cb (choA q n c pr nr cr ph nh ch true 83) 116) (d : Bool) (hd : decide (nr < nr') = d) :
    Calls Try.prog 101 #[.pointer (some ⟨cb, 0, none⟩), .agg (outA q' n' c' pr' nr' cr' ph' nh' ch')] w (Offered cb (if d then choA q' n' c' pr' nr' cr' ph' nh' ch' true 83 else choA q n c pr nr cr ph nh ch true 83) w) := by
  have HC := Lib.hid (fun w' => (by have h := surer_any q' n' c' pr' nr' cr' ph' nh' ch' q n c pr nr cr ph nh ch w'; rw [hd] at h; exact h : Calls Try.prog 83 #[.agg (outA q' n' c' pr' nr' cr' ph' nh' ch'), .agg (outA q n c pr nr cr ph nh ch)] w' fun e w'' => e = .returned (.bool d) ∧ Below w'.heap.size w' w''))
  have hz := hr.lt
  have HR := Lib.hid (hr.alloc (.cells (outA q' n' c' pr' nr' cr' ph' nh' ch') 90))
  have HF := Lib.hid ((FromB.refl cb w).alloc (.cells (outA q' n' c' pr' nr' cr' ph' nh' ch') 90))
  have HQ := Lib.hid (Row.new w (outA q' n' c' pr' nr' cr' ph' nh' ch') 90)
  clear hr hd
  cases d
  all_goals
    go_enter Try.func101, Try.ntmps101
    go_wp2_with fail
    generalize w.alloc (.cells (outA q' n' c' pr' nr' cr' ph' nh' ch') 90) = W1 at *
    have c0 := HR.out.cell 0 (v := .slice q n c) rfl
    have c1 := HR.out.cell 1 (v := .slice pr nr cr) rfl
    have c2 := HR.out.cell 2 (v := .slice ph nh ch) rfl
    have c3 := HR.out.cell 3 (v := .bool true) rfl
    have c4 := HR.out.cell 4 (v := .func (.func 83) #[] #[]) rfl
    have q0 := HQ.out.cell 0 (v := .slice q' n' c') rfl
    have q1 := HQ.out.cell 1 (v := .slice pr' nr' cr') rfl
    have q2 := HQ.out.cell 2 (v := .slice ph' nh' ch') rfl
    refine wp_region_later (by kernel_rfl) (by kernel_rfl) ?_
    repeat (go_big_quiet_step (first
      | (go_at_call 83; with_reducible exact Calls.later_of (HC.out _))))
    refine wpQuiet_nil ?_
    intro _ hw'
    obtain ⟨y, hw''⟩ := hw'
    subst hw''
    have RY := Lib.hid (y.fr.row HR.out)
    have HY := Lib.hid (HF.out.below y.b)
    have f0 := RY.out.free 0
    have f1 := RY.out.free 1
    have f2 := RY.out.free 2
    have f3 := RY.out.free 3
    go_wp2_with fail
    go_end0
    first
      | exact ⟨⟨_, rfl⟩, RY.out, HY.out⟩
      | exact ⟨⟨_, rfl⟩, cho_sets RY.out _ _ _ _ _ _ _ _ _, from_sets HY.out _ _ _ _⟩
end Go.Proofs.Ytgdidhbomdfcpaa
