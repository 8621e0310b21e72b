/-
  scope: reckoned, number.
-/
import Derived.Test.YtbllaacbeagljaaGreatDoorSb6
namespace Go.Proofs.YtbllaacbeagljaaGreatDoor
open Go.RowKit Go.Maps

/-- what is asked of every number -/
def chkR (at_ : Int) (x : Rs) : Rs := if x.e ≠ 0 then x else if x.v < 0 ∨ 1099511627776 < x.v then ⟨0, at_, 203⟩ else x
def foldR (g : Int → Int → Int) : Rs → List Rs → Rs
  | acc, [] => acc
  | acc, x :: r => if acc.e ≠ 0 then acc else if x.e ≠ 0 then x else foldR g ⟨g acc.v x.v, 0, 0⟩ r
def cplR (k at_ : Int) (x y : Rs) : Rs := if x.e ≠ 0 then x else if y.e ≠ 0 then y else ofZ k at_ x.v y.v
/-- what comes of a number, ahead of the last look -/
def rawR (k n at_ : Int) (rs : List Rs) : Rs := if k = 20 then ⟨n, 0, 0⟩ else if k ≤ 26 then cplR k at_ (rs.getD 0 ⟨0, 0, 0⟩) (rs.getD 1 ⟨0, 0, 0⟩) else foldR (if k = 27 then min else max) (rs.headD ⟨0, 0, 0⟩) rs.tail
/-- A NUMBER OF NUMBERS, RECKONED -/
def rkN : Nat → Nd → Rs
  | 0, _ => ⟨0, 0, 0⟩
  | d + 1, t => chkR t.at_ (rawR t.k t.n t.at_ (t.kids.map (rkN d)))
/-- number at depth d -/
def NuS (d : Nat) : Prop := ∀ (P : Nat → Prop) (rb : Nat) (t : Nd) (v : Value) (w : World), NumR P w d v t → Calls Tryz.prog 36 #[.pointer (some ⟨rb, 0, none⟩), v] w (RkQ (rkN d t) w)
theorem chkR_ok {at_ : Int} {x : Rs} (h : (chkR at_ x).e = 0) : 0 ≤ (chkR at_ x).v ∧ (chkR at_ x).v ≤ 1099511627776 := by
  unfold chkR at *
  split at h
  · exact absurd h ‹_›
  · rename_i h1
    split at h
    · simp at h
    · rename_i h2
      rw [if_neg h1, if_neg h2]
      omega

set_option maxRecDepth 100000 in
theorem ta110_110 (u : Value) (w : World) : Sem.run Tryz.prog (Instr.typeAssert (.iface 110 u) 75 110 true) w = .ok (.tuple #[u, .bool true]) w := by kernel_rfl
set_option maxRecDepth 100000 in
theorem ta122_110 (u : Value) (w : World) : Sem.run Tryz.prog (Instr.typeAssert (.iface 122 u) 75 110 true) w = .ok (.tuple #[.agg #[.int .i64 0, .int .i64 0], .bool false]) w := by kernel_rfl
set_option maxRecDepth 100000 in
theorem ta122_112 (u : Value) (w : World) : Sem.run Tryz.prog (Instr.typeAssert (.iface 122 u) 75 112 true) w = .ok (.tuple #[.agg #[.int .i64 0, .string ⟨#[]⟩], .bool false]) w := by kernel_rfl
set_option maxRecDepth 100000 in
theorem ta122_116 (u : Value) (w : World) : Sem.run Tryz.prog (Instr.typeAssert (.iface 122 u) 75 116 true) w = .ok (.tuple #[.agg #[.int .i64 0, .pointer none], .bool false]) w := by kernel_rfl
set_option maxRecDepth 100000 in
theorem ta122_118 (u : Value) (w : World) : Sem.run Tryz.prog (Instr.typeAssert (.iface 122 u) 75 118 true) w = .ok (.tuple #[.agg #[.int .i64 0], .bool false]) w := by kernel_rfl
set_option maxRecDepth 100000 in
theorem ta122_122 (u : Value) (w : World) : Sem.run Tryz.prog (Instr.typeAssert (.iface 122 u) 75 122 true) w = .ok (.tuple #[u, .bool true]) w := by kernel_rfl
set_option maxRecDepth 100000 in
theorem ta123_110 (u : Value) (w : World) : Sem.run Tryz.prog (Instr.typeAssert (.iface 123 u) 75 110 true) w = .ok (.tuple #[.agg #[.int .i64 0, .int .i64 0], .bool false]) w := by kernel_rfl
set_option maxRecDepth 100000 in
theorem ta123_112 (u : Value) (w : World) : Sem.run Tryz.prog (Instr.typeAssert (.iface 123 u) 75 112 true) w = .ok (.tuple #[.agg #[.int .i64 0, .string ⟨#[]⟩], .bool false]) w := by kernel_rfl
set_option maxRecDepth 100000 in
theorem ta123_116 (u : Value) (w : World) : Sem.run Tryz.prog (Instr.typeAssert (.iface 123 u) 75 116 true) w = .ok (.tuple #[.agg #[.int .i64 0, .pointer none], .bool false]) w := by kernel_rfl
set_option maxRecDepth 100000 in
theorem ta123_118 (u : Value) (w : World) : Sem.run Tryz.prog (Instr.typeAssert (.iface 123 u) 75 118 true) w = .ok (.tuple #[.agg #[.int .i64 0], .bool false]) w := by kernel_rfl
set_option maxRecDepth 100000 in
theorem ta123_122 (u : Value) (w : World) : Sem.run Tryz.prog (Instr.typeAssert (.iface 123 u) 75 122 true) w = .ok (.tuple #[.agg #[.int .i64 0, .slice none 0 0], .bool false]) w := by kernel_rfl
set_option maxRecDepth 100000 in
theorem ta123_123 (u : Value) (w : World) : Sem.run Tryz.prog (Instr.typeAssert (.iface 123 u) 75 123 true) w = .ok (.tuple #[u, .bool true]) w := by kernel_rfl
set_option maxRecDepth 100000 in
theorem ta125_110 (u : Value) (w : World) : Sem.run Tryz.prog (Instr.typeAssert (.iface 125 u) 75 110 true) w = .ok (.tuple #[.agg #[.int .i64 0, .int .i64 0], .bool false]) w := by kernel_rfl
set_option maxRecDepth 100000 in
theorem ta125_112 (u : Value) (w : World) : Sem.run Tryz.prog (Instr.typeAssert (.iface 125 u) 75 112 true) w = .ok (.tuple #[.agg #[.int .i64 0, .string ⟨#[]⟩], .bool false]) w := by kernel_rfl
set_option maxRecDepth 100000 in
theorem ta125_116 (u : Value) (w : World) : Sem.run Tryz.prog (Instr.typeAssert (.iface 125 u) 75 116 true) w = .ok (.tuple #[.agg #[.int .i64 0, .pointer none], .bool false]) w := by kernel_rfl
set_option maxRecDepth 100000 in
theorem ta125_118 (u : Value) (w : World) : Sem.run Tryz.prog (Instr.typeAssert (.iface 125 u) 75 118 true) w = .ok (.tuple #[.agg #[.int .i64 0], .bool false]) w := by kernel_rfl
set_option maxRecDepth 100000 in
theorem ta125_122 (u : Value) (w : World) : Sem.run Tryz.prog (Instr.typeAssert (.iface 125 u) 75 122 true) w = .ok (.tuple #[.agg #[.int .i64 0, .slice none 0 0], .bool false]) w := by kernel_rfl
set_option maxRecDepth 100000 in
theorem ta125_123 (u : Value) (w : World) : Sem.run Tryz.prog (Instr.typeAssert (.iface 125 u) 75 123 true) w = .ok (.tuple #[.agg #[.int .i64 0, .slice none 0 0], .bool false]) w := by kernel_rfl
set_option maxRecDepth 100000 in
theorem ta125_125 (u : Value) (w : World) : Sem.run Tryz.prog (Instr.typeAssert (.iface 125 u) 75 125 true) w = .ok (.tuple #[u, .bool true]) w := by kernel_rfl
set_option maxRecDepth 100000 in
theorem plc110 (at_ : Int) (x : Value) (s : String) (hs : s = (((Tryz.prog.info? 108).bind fun i => i.methods.find? fun r => (r.func.map (fun x => x.1)) == some 202).map (fun r => r.name)).getD default) (w : World) : Sem.run Tryz.prog (method 388 110 (.agg #[.int .i64 at_, x]) s) w = .ok (202, .agg #[.int .i64 at_]) w := by
  subst hs
  kernel_rfl
set_option maxRecDepth 100000 in
theorem plc122 (at_ : Int) (x : Value) (s : String) (hs : s = (((Tryz.prog.info? 108).bind fun i => i.methods.find? fun r => (r.func.map (fun x => x.1)) == some 202).map (fun r => r.name)).getD default) (w : World) : Sem.run Tryz.prog (method 388 122 (.agg #[.int .i64 at_, x]) s) w = .ok (202, .agg #[.int .i64 at_]) w := by
  subst hs
  kernel_rfl
set_option maxRecDepth 100000 in
theorem plc123 (at_ : Int) (x : Value) (s : String) (hs : s = (((Tryz.prog.info? 108).bind fun i => i.methods.find? fun r => (r.func.map (fun x => x.1)) == some 202).map (fun r => r.name)).getD default) (w : World) : Sem.run Tryz.prog (method 388 123 (.agg #[.int .i64 at_, x]) s) w = .ok (202, .agg #[.int .i64 at_]) w := by
  subst hs
  kernel_rfl
set_option maxRecDepth 100000 in
theorem plc125 (at_ : Int) (x y z : Value) (s : String) (hs : s = (((Tryz.prog.info? 108).bind fun i => i.methods.find? fun r => (r.func.map (fun x => x.1)) == some 202).map (fun r => r.name)).getD default) (w : World) : Sem.run Tryz.prog (method 388 125 (.agg #[.int .i64 at_, x, y, z]) s) w = .ok (202, .agg #[.int .i64 at_]) w := by
  subst hs
  kernel_rfl
set_option maxRecDepth 100000 in
theorem place_any (at_ : Int) (w : World) : Calls Tryz.prog 202 #[.agg #[.int .i64 at_]] w fun e w' => e = .returned (.int .i64 at_) ∧ Below w.heap.size w w' := by
  have HB := hid (below1 w (.cells #[.int .i64 at_] 108))
  go_enter Tryz.func202, Tryz.ntmps202
  go_wp2_with fail
  go_ret
  exact ⟨rfl, HB.out⟩
set_option maxRecDepth 100000 in
set_option maxHeartbeats 4000000 in
theorem number_of (rb : Nat) (T : TypeId) (at_ : Int) (x : Value) (x0 : Rs) (w : World) (Hm : ∀ (s : String) (_ : s = (((Tryz.prog.info? 108).bind fun i => i.methods.find? fun r => (r.func.map (fun x => x.1)) == some 202).map (fun r => r.name)).getD default) (u : World), Sem.run Tryz.prog (method 388 T x s) u = .ok (202, .agg #[.int .i64 at_]) u) (H54 : Hid (Calls Tryz.prog 54 #[.pointer (some ⟨rb, 0, none⟩), .iface T x] w (RkQ x0 w))) :
    Calls Tryz.prog 36 #[.pointer (some ⟨rb, 0, none⟩), .iface T x] w (RkQ (chkR at_ x0) w) := by
  obtain ⟨PO, hPO⟩ : ∃ PO, PO = RkQ (chkR at_ x0) w := ⟨_, rfl⟩
  rw [← hPO]
  have HPO := hid hPO
  have HM := hid Hm
  clear hPO Hm
  obtain ⟨xv, xa, xe⟩ := x0
  by_cases he0 : xe = 0
  · subst he0
    by_cases h1 : xv < 0
    · have HZ : Hid (chkR at_ ⟨xv, xa, 0⟩ = ⟨0, at_, 203⟩) := hid (by unfold chkR; rw [if_neg (by simp), if_pos (.inl h1)])
      go_enter Tryz.func36, Tryz.ntmps36
      go_wp2_with fail
      refine Calls.mono H54.out ?_
      rintro e w2 ⟨⟨-, rfl⟩ | ⟨he, -⟩, hb2⟩
      · have HB2 := hid hb2
        clear hb2
        go_wp2_with (first | (rw [HM.out]; rotate_left; kernel_rfl) | (go_at_call 202; refine Calls.mono (place_any _ _) ?_; rintro e w3 ⟨rfl, hb3⟩; have HB3 := hid hb3; clear hb3))
        exact ⟨rfl, by rw [HPO.out, HZ.out]; exact ⟨.inr ⟨by simp, rfl⟩, HB2.out.trans (HB3.out.mono HB2.out.size)⟩⟩
      · exact absurd rfl he
    have h1' : decide (xv < 0) = false := by simpa using h1
    by_cases h2 : 1099511627776 < xv
    · have HZ : Hid (chkR at_ ⟨xv, xa, 0⟩ = ⟨0, at_, 203⟩) := hid (by unfold chkR; rw [if_neg (by simp), if_pos (.inr h2)])
      go_enter Tryz.func36, Tryz.ntmps36
      go_wp2_with fail
      refine Calls.mono H54.out ?_
      rintro e w2 ⟨⟨-, rfl⟩ | ⟨he, -⟩, hb2⟩
      · have HB2 := hid hb2
        clear hb2
        go_wp2_with (first | (rw [HM.out]; rotate_left; kernel_rfl) | (go_at_call 202; refine Calls.mono (place_any _ _) ?_; rintro e w3 ⟨rfl, hb3⟩; have HB3 := hid hb3; clear hb3))
        exact ⟨rfl, by rw [HPO.out, HZ.out]; exact ⟨.inr ⟨by simp, rfl⟩, HB2.out.trans (HB3.out.mono HB2.out.size)⟩⟩
      · exact absurd rfl he
    have HZ : Hid (chkR at_ ⟨xv, xa, 0⟩ = ⟨xv, xa, 0⟩) := hid (by unfold chkR; rw [if_neg (by simp), if_neg (by simp only; omega)])
    go_enter Tryz.func36, Tryz.ntmps36
    go_wp2_with fail
    refine Calls.mono H54.out ?_
    rintro e w2 ⟨⟨-, rfl⟩ | ⟨he, -⟩, hb2⟩
    · have HB2 := hid hb2
      clear hb2
      go_wp2_with fail
      show PO (.returned (.int .i64 xv)) _
      rw [HPO.out, HZ.out]
      exact ⟨.inl ⟨rfl, rfl⟩, HB2.out⟩
    · exact absurd rfl he
  · have HZ : Hid (chkR at_ ⟨xv, xa, xe⟩ = ⟨xv, xa, xe⟩) := hid (by unfold chkR; rw [if_pos he0])
    have HE := hid he0
    clear he0
    go_enter Tryz.func36, Tryz.ntmps36
    go_wp2_with fail
    refine Calls.mono H54.out ?_
    rintro e w2 ⟨⟨he, -⟩ | ⟨-, rfl⟩, hb2⟩
    · exact absurd he HE.out
    · have HB2 := hid hb2
      clear hb2
      go_wp2_with fail
      exact ⟨rfl, by rw [HPO.out, HZ.out]; exact ⟨.inr ⟨HE.out, rfl⟩, HB2.out⟩⟩
set_option maxRecDepth 100000 in
set_option maxHeartbeats 4000000 in
theorem reck_const (rb : Nat) (at_ n : Int) (w : World) : Calls Tryz.prog 54 #[.pointer (some ⟨rb, 0, none⟩), .iface 110 (.agg #[.int .i64 at_, .int .i64 n])] w (RkQ ⟨n, 0, 0⟩ w) := by
  obtain ⟨PO, hPO⟩ : ∃ PO, PO = RkQ ⟨n, 0, 0⟩ w := ⟨_, rfl⟩
  rw [← hPO]
  have HPO := hid hPO
  have HB := hid (below1 w (.cells #[.int .i64 at_, .int .i64 n] 110))
  have hta110 := ta110_110
  clear hPO
  go_enter Tryz.func54, Tryz.ntmps54
  go_wp2_with fail
  show PO (.returned (.int .i64 n)) _
  rw [HPO.out]
  exact ⟨.inl ⟨rfl, rfl⟩, HB.out⟩
/-- what a call of number tells -/
def Nu (rb : Nat) (v : Value) (x : Rs) (w : World) : Prop := Calls Tryz.prog 36 #[.pointer (some ⟨rb, 0, none⟩), v] w (RkQ x w)

end Go.Proofs.YtbllaacbeagljaaGreatDoor
