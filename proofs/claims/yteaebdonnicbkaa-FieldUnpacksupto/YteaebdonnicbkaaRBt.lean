/-
  Bytes that grow by appends; the document's bytes (function 57).
-/
import Derived.Test.YteaebdonnicbkaaBkW
namespace Go.Proofs.Yteaebdonnicbkaa
open Go.RowKit

/-- BYTES OF ONE's OWN in a block from B on -/
def OwB (B : Nat) (w : World) (o : Value) (n : Nat) (zs : List Int) : Prop := w.ownsRow B 5 1 o n (zs.map (Value.int .u8))
theorem OwB.nil (B : Nat) (w : World) : OwB B w (.slice none 0 0) 0 [] := ⟨rfl, .inl ⟨rfl, rfl⟩⟩
theorem OwB.len {B : Nat} {w : World} {o : Value} {n : Nat} {zs : List Int} (h : OwB B w o n zs) : zs.length = n := by simpa using h.1
theorem OwB.below {B : Nat} {w w' : World} {o : Value} {n : Nat} {zs : List Int} (h : OwB B w o n zs) (hb : Below w.heap.size w w') : OwB B w' o n zs := owns_below h hb
theorem OwB.alloc {B : Nat} {w : World} {o : Value} {n : Nat} {zs : List Int} (h : OwB B w o n zs) (x : Obj) : OwB B (w.alloc x) o n zs := h.below ((Below.refl _ _).alloc (Nat.le_refl _) _)
theorem OwB.base {B B' : Nat} {w : World} {o : Value} {n : Nat} {zs : List Int} (h : OwB B w o n zs) (hb : B' ≤ B) : OwB B' w o n zs := owns_base h hb
theorem OwB.form {B : Nat} {w : World} {o : Value} {n : Nat} {zs : List Int} (h : OwB B w o n zs) (hn : 0 < n) : ∃ g cap, o = .slice (some ⟨g, 0, none⟩) n cap ∧ B ≤ g ∧ Own w g n cap zs := grown_own h rfl hn
theorem Own.src {w : World} {g n cap : Nat} {zs : List Int} (h : Own w g n cap zs) : ∀ j u, (zs.map (Value.int .u8))[j]? = some u → w.cell? ((⟨g, 0, none⟩ : Addr).add j) = some u := by
  intro j u hj
  have hl := h.len
  have hjl : j < zs.length := by
    have := (List.getElem?_eq_some_iff.1 hj).1
    simpa using this
  have e : (⟨g, 0, none⟩ : Addr).add j = ⟨g, j, none⟩ := by unfold Addr.add; split <;> simp_all
  rw [e, h.cell j (by omega), ← hj]
  simp [hjl]

/-- AN APPEND to bytes of one's own -/
theorem wpL_app {ops : Array Oper} {rest : List Oper} {o : Oper} {a : Act} {Q : Exit → Act → World → Prop} {w : World} (hgd : o.guard = none) (s x : Operand)
    (ho : o.op = .call { callee := .builtin .append, args := #[s, x], argTypes := #[22, 22] }) (B : Nat) (v : Value) (n : Nat) (zs : List Int) (hs : a.eval s = v) (hown : OwB B w v n zs)
    (ad : Addr) (m c : Nat) (cs : List Int) (hx : a.eval x = .slice (some ad) m c) (hl : cs.length = m) (hnews : ∀ j u, (cs.map (Value.int .u8))[j]? = some u → w.cell? (ad.add j) = some u)
    (hm : 0 < m) (h63 : n + m ≤ 140737488355328) (hbase : B ≤ w.heap.size)
    (h : ∀ g cap w', OwB B w' (.slice (some ⟨g, 0, none⟩) (n + m) cap) (n + m) (zs ++ cs) → Below B w w' → w.grownBy w' v.ownBlock → (v.ownBlock = some g ∨ g = w.heap.size) → wpList Try.prog ops Q rest (a.put o.dst (.slice (some ⟨g, 0, none⟩) (n + m) cap)) w') :
    wpList Try.prog ops Q (o :: rest) a w := by
  obtain ⟨i5, hi5, hz5, hs5, hb5⟩ := info_parts info5
  refine wpList_append_lies _ hgd s x 22 ho B 5 i5 (.int .u8 0) 1 1 Try.underlying22 hi5 hz5 hs5 hb5 rfl (by decide) v n (zs.map (Value.int .u8)) hs hown ad m c (cs.map (Value.int .u8)) hx (by rw [List.length_map, hl, Nat.mul_one]) hnews (u8_one _) hm (by unfold maxLen; omega) (by omega) hbase w.heap.size rfl ?_
  intro g cap w' ho' hg hlie _
  rw [← List.map_append] at ho'
  exact h g cap w' ho' ((Below.refl _ _).grown hg hbase (fun k hk => (World.ownsRow.lt hown k hk).1)) hg hlie

theorem rem256 {v : Int} (h : 0 ≤ v) : v.tmod 256 = v % 256 := Int.tmod_eq_emod_of_nonneg h
theorem quo256 {v : Int} (h : 0 ≤ v) : v.tdiv 256 = v / 256 := Int.tdiv_eq_ediv_of_nonneg h

set_option maxRecDepth 100000 in
set_option maxHeartbeats 1000000 in
theorem refBytes_any (v : Int) (n : Nat) (w : World) (h0 : 0 ≤ v) (h1 : v ≤ 9223372036854775807) (hn : n ≤ 8) :
    Calls Try.prog 57 #[.int .i64 v, .int .i64 (n : Int)] w fun e w' => ∃ o, e = .returned o ∧ OwB w.heap.size w' o n (Pl.dig v n) ∧ Below w.heap.size w w' := by
  go_enter Try.func57, Try.ntmps57
  go_wp2_with fail
  go_loopw [0, 5, 6] (fun x o i wt => ∃ (k : Nat) (vk : Int) (done : List Int), k ≤ n ∧ i = .int .i64 (k : Int) ∧ x = .int .i64 vk ∧ 0 ≤ vk ∧ vk ≤ 9223372036854775807 ∧ Pl.dig v n = done ++ Pl.dig vk (n - k) ∧ done.length = k ∧ OwB w.heap.size wt o k done ∧ Below w.heap.size w wt) (fun _ _ i _ => n - (intOf i).toNat)
  case atStart => exact ⟨0, v, [], by omega, rfl, rfl, h0, h1, rfl, rfl, OwB.nil _ _, Below.refl _ _⟩
  case round =>
    obtain ⟨k, vk, done, hk, rfl, rfl, q0, q1, hd, hl, hown, hb⟩ := hrel
    obtain ⟨ao, co, rfl, _⟩ := owns_slice hown
    by_cases hkn : k < n
    · have e1 : (vk.tmod 256) = vk % 256 := rem256 q0
      have e2 : (vk.tdiv 256) = vk / 256 := quo256 q0
      have e3 : IntKind.u8.wrap (vk % 256) = vk % 256 := by rw [IntKind.wrap_u8]; omega
      have HO := hid (hown.alloc (.cells (([vk % 256] : List Int).map (Value.int .u8)).toArray 5))
      have Hb := hid hb
      have hk1 : (k : Int) < (n : Int) := by omega
      clear hown hb
      go_wp2_with (at_builtin; refine wpL_app (by rfl) _ _ (by rfl) w.heap.size _ k done (by rfl) (by exact HO.out) ⟨wr.heap.size, 0, none⟩ 1 1 [vk % 256] (by rfl) (by rfl) (by exact newsB wr [vk % 256]) (by decide) (by omega) (by have := Hb.out.size; simp; omega) ?_)
      intro g cap w' ho hg _ _
      have HO' := hid ho
      have Hb' := hid ((Hb.out.alloc Hb.out.size (.cells #[.int .u8 (vk % 256)] 5)).trans hg)
      clear ho hg HO
      go_wp2
      go_roundw
      case rel => exact ⟨k + 1, vk / 256, done ++ [vk % 256], by omega, by go_num, by go_num, by omega, by omega, by rw [hd, show n - k = (n - (k + 1)) + 1 by omega, Pl.dig, List.append_assoc]; rfl, by simp [hl], HO'.out, Hb'.out⟩
      case measure => simp [intOf]; omega
    · obtain rfl : k = n := by omega
      have HO := hid hown
      have Hb := hid hb
      have he : done = Pl.dig v k := by rw [hd, Nat.sub_self, Pl.dig, List.append_nil]
      clear hown hb
      go_wp2
      go_ret
      exact ⟨_, rfl, by rw [← he]; exact HO.out, Hb.out⟩

end Go.Proofs.Yteaebdonnicbkaa
