/-
  The Shelf: write: the second loop in plain words.
-/
import Derived.Test.YtoifmiloaefanaaSw4
namespace Go.Proofs.Ytoifmiloaefanaa
open Go.RowKit

theorem set_at {w : World} {g r : Nat} {x u : Value} (h : w.cell? ⟨g, r, none⟩ = some x) : (w.setCell ⟨g, r, none⟩ u).cell? ⟨g, r, none⟩ = some u := by
  unfold World.cell? at h ⊢
  simp only at h ⊢
  split at h
  · rename_i cs t fz he
    simp only [World.setCell, Array.getElem?_modify, he]
    have hr := (Array.getElem?_eq_some_iff.1 h).1
    simp [hr]
  · cases h
theorem frozen_set (w : World) (g r : Nat) (q : Addr) (u : Value) : (w.setCell ⟨g, r, none⟩ u).frozen? q = w.frozen? q := World.frozen?_setCells g [u] r w q
def W2 (F : Wfix) (p : Nat) (wr : World) : Prop := ∃ κ' kv' wv' mk' pw us, Wst κ' F.B F.s mk' (F.T : Int) F.fv F.hv kv' wv' (F.fs.map (·.1)) (lsOf F.fs pw) (F.xs ++ mxOf F.fs us) (F.ys ++ zsOf F.fs pw) (F.R ++ rpOf F.fs pw us) p pw wr ∧ us.length = p ∧ p ≤ F.fs.length ∧ pw.length = F.fs.length ∧ (∀ p (h : p < pw.length) (h' : p < F.fs.length), pw[p].2.length = F.fs[p].2.length + F.T + 70) ∧ 0 ≤ mk' ∧ mk' ≤ F.mk0 + F.fs.length * 2000000 ∧ Frw F.κ κ' F.w wr
theorem W2.start {F : Wfix} {wr : World} (h : W1 F F.fs.length wr) : W2 F 0 wr := by
  obtain ⟨κ', kv', wv', mk', pw, hst, hpw, hif, hps, hm0, hm1, hfr⟩ := h
  refine ⟨κ', kv', wv', mk', pw, [], ?_, rfl, Nat.zero_le _, hpw, hps, hm0, hm1, hfr⟩
  have er : rpOf F.fs pw [] = [] := by unfold rpOf; split <;> simp_all
  rw [mxOf_nil, er, List.append_nil]
  rw [List.take_length] at hst
  exact hst
/-- what stands at a pair -/
structure W2a (F : Wfix) (p : Nat) (wr : World) (mk' : Int) (kg wg kc wc q n M c : Nat) (a : Option Addr) : Prop where
  sb : wr.heap[F.s]? = some (.cells #[.int .i64 mk', .int .i64 (F.T : Int), .bool false, F.fv, F.hv, .slice (some ⟨kg, 0, none⟩) (F.xs.length + 2 * F.fs.length) kc, .slice (some ⟨wg, 0, none⟩) (F.ys.length + 2 * F.fs.length) wc] 36 (0, 0))
  k0 : wr.cell? ⟨kg, F.xs.length + 2 * p, none⟩ = some (.slice a n c)
  k1 : wr.cell? ⟨kg, F.xs.length + 2 * p + 1, none⟩ = some (.slice a n c)
  kf : ∀ o, wr.frozen? ⟨kg, o, none⟩ = false
  w0 : wr.cell? ⟨wg, F.ys.length + 2 * p, none⟩ = some (.slice (some ⟨q, 0, none⟩) n M)
  w1 : wr.cell? ⟨wg, F.ys.length + 2 * p + 1, none⟩ = some (.slice (some ⟨q, 0, none⟩) M M)
  nM : n < M
  nc : n ≤ c
  Mb : M ≤ 1100000
  gs : kg ≠ F.s
  gw : kg ≠ wg
  kl : kg < wr.heap.size
  sl : F.s < wr.heap.size
  wl : wg < wr.heap.size
theorem W2.at {F : Wfix} {p : Nat} {wr : World} (h : W2 F p wr) (hp : p < F.fs.length) (hT : F.T ≤ 1000000) (hnL : ∀ i (h : i < F.fs.length), F.fs[i].2.length ≤ 16384) (hvf : ∀ i (h : i < F.fs.length), ∃ a c, F.fs[i].1 = .slice a F.fs[i].2.length c ∧ F.fs[i].2.length ≤ c) :
    ∃ mk' kg wg kc wc q n M c a, W2a F p wr mk' kg wg kc wc q n M c a ∧ 
      (W2 F p (wr.drew.setCell ⟨kg, F.xs.length + 2 * p, none⟩ (.slice a n c))) ∧
      ∃ v' w1, (Builtin.append_ #[23, 23] 23 #[.slice a n c, .slice (some ⟨q, n * 4, none⟩) (M - n) (M - n)]).run Try.prog wr.drew = .ok v' w1 ∧ (∃ a' c', v' = .slice a' M c') ∧ (w1.cell? ⟨kg, F.xs.length + 2 * p + 1, none⟩ = some (.slice a n c) ∧ w1.frozen? ⟨kg, F.xs.length + 2 * p + 1, none⟩ = false) ∧ W2 F (p + 1) (w1.setCell ⟨kg, F.xs.length + 2 * p + 1, none⟩ v') ∧
        (w1.heap[F.s]? = wr.heap[F.s]? ∧ w1.heap[wg]? = wr.heap[wg]?) := by
  obtain ⟨κ', kv', wv', mk', pw, us, hst, hus, hpf, hpw, hps, hm0, hm1, hfr⟩ := h
  obtain ⟨a, c, hva, hnc⟩ := hvf p hp
  have hnb := hnL p hp
  have hpp : p < pw.length := by omega
  have hMl := hps p hpp hp
  have mxl := mxOf_len F.fs us
  have zsl := zsOf_len F.fs pw (by omega)
  obtain ⟨m0, m1⟩ := mxOf_at F.fs us (by omega)
  obtain ⟨z0, z1⟩ := zsOf_at F.fs pw p hp hpp
  subst hus
  obtain ⟨ka, kc, hkv⟩ := hst.kr.own.form
  obtain ⟨wa, wc, hwv⟩ := hst.wr.own.form
  rw [List.length_append, mxl] at hkv
  rw [List.length_append, zsl, hpw] at hwv
  have krO := hst.kr.own
  have wrO := hst.wr.own
  rw [hkv] at krO
  rw [hwv] at wrO
  have at' : ∀ (xs ys : List Value) (i : Nat) (v : Value), ys[i]? = some v → ∀ (h : xs.length + i < (xs ++ ys).length), (xs ++ ys)[xs.length + i] = v := fun xs ys i v e h => by
    have : (xs ++ ys)[xs.length + i]? = some v := by rw [List.getElem?_append_right (by omega)]; simpa using e
    rw [List.getElem?_eq_getElem h] at this
    exact Option.some.inj this
  obtain ⟨kg, hka, hkg, ek0, _⟩ := krO.at (by simp [mxl]) (F.xs.length + 2 * us.length) (by simp [mxl]; omega)
  subst hka
  obtain ⟨kg', e', _, ek1, _⟩ := krO.at (by simp [mxl]) (F.xs.length + (2 * us.length + 1)) (by simp [mxl]; omega)
  simp at e'
  subst e'
  obtain ⟨wg, hwa, hwg, ew0, _⟩ := wrO.at (by simp [zsl, hpw]) (F.ys.length + 2 * us.length) (by simp [zsl]; omega)
  subst hwa
  obtain ⟨wg', e', _, ew1, _⟩ := wrO.at (by simp [zsl, hpw]) (F.ys.length + (2 * us.length + 1)) (by simp [zsl]; omega)
  simp at e'
  subst e'
  rw [at' _ _ _ _ m0, hva] at ek0
  rw [at' _ _ _ _ m1, hva] at ek1
  rw [at' _ _ _ _ z0] at ew0
  rw [at' _ _ _ _ z1] at ew1
  have tk : κ' kg = 4 := hst.kr.tag kg (by rw [hkv]; rfl)
  have tw : κ' wg = 5 := hst.wr.tag wg (by rw [hwv]; rfl)
  have sb := hst.sb
  rw [hkv, hwv] at sb
  have hkb := (own_blk krO (g := kg) rfl).2.2
  refine ⟨mk', kg, wg, kc, wc, pw[us.length].1, F.fs[us.length].2.length, pw[us.length].2.length, c, a, ⟨sb, ek0, ek1, fun o => ?_, ew0, ew1, by omega, hnc, by omega, fun e => ?_, fun e => ?_, hkg, hst.lt, hwg⟩, ?_, ?_⟩
  · obtain ⟨cur, hc⟩ := hkb
    simp [World.frozen?, hc]
  · rw [e, hst.ks] at tk; omega
  · rw [e, tw] at tk; omega
  · obtain ⟨cur, hc⟩ := hkb
    have hcc : cur[F.xs.length + 2 * us.length]? = some (.slice a F.fs[us.length].2.length c) := by
      simp only [World.cell?, hc] at ek0
      exact ek0
    have hbl := set_same (w := wr.drew) (s := kg) (i := F.xs.length + 2 * us.length) (cs := cur) (t := 23) (fz := (0, 0)) (v := .slice a F.fs[us.length].2.length c) hc hcc
    obtain ⟨s1, f1⟩ := hst.next ((below_drew wr.heap.size wr).trans hbl)
    exact ⟨κ', kv', wv', mk', pw, us, s1, rfl, hpf, hpw, hps, hm0, hm1, hfr.trans f1⟩
  · obtain ⟨s1, f1⟩ := hst.next (below_drew _ wr)
    have hil : us.length < (lsOf F.fs pw).length := by rw [lsOf_len]; exact hp
    have hls : (lsOf F.fs pw)[us.length] = (.slice a F.fs[us.length].2.length c, pw[us.length].2.take F.fs[us.length].2.length) := by rw [lsOf_all F.fs pw us.length hp hpp, hva]
    obtain ⟨kg2, v', w1, hk2, hr, hf, hce, hbw, κ2, s2, f2⟩ := s1.growL us.length rfl hil (q := pw[us.length].1) (W := pw[us.length].2) hls (by exact List.getElem_mem hpp) (by omega) (by omega) hkv (by simp [mxl]) (r := F.xs.length + (2 * us.length + 1)) (by simp [mxl]; omega)
    simp at hk2
    subst hk2
    rw [at' _ _ _ _ m1, hva] at hce
    refine ⟨v', w1, hr, hf, hce, ⟨κ2, kv', wv', mk', pw, us ++ [v'], ?_, by simp, by omega, hpw, hps, hm0, hm1, (hfr.trans f1).trans f2⟩, ?_⟩
    · rw [mxOf_snoc F.fs us v' hp, rpOf_snoc F.fs pw us v' hp hpp, hva, ← List.append_assoc]
      have es : F.xs ++ (mxOf F.fs us).set (2 * us.length + 1) v' = (F.xs ++ mxOf F.fs us).set (F.xs.length + (2 * us.length + 1)) v' := by
        rw [List.set_append_right _ _ (by omega)]
        congr 2
        omega
      rw [es]
      exact s2
    · exact ⟨hbw.block F.s hst.lt (by rw [hst.ks]; omega), hbw.block wg hwg (by rw [tw]; omega)⟩

end Go.Proofs.Ytoifmiloaefanaa
