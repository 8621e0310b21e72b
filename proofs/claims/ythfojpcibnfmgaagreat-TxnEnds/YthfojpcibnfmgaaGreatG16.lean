import Derived.Test.YthfojpcibnfmgaaGreatG15
import Derived.Deep.RegionHeld3
import Derived.Shelf.Bytes.SlEqualAll
set_option maxRecDepth 100000
set_option maxHeartbeats 16000000
namespace Go.Proofs.YthfojpcibnfmgaaGreat
open Go.RowKit
structure Fl (Z:Nat -> Prop) (w:World) (j c p room nb K fr bl:Nat) (d:Pd) (life:Nat) (res:Js) (i:Nat) (fv:Value) (wr:World) (found:List Int) (sr:Js) (B:Nat) (Zr:Nat -> Prop):Prop where
 res:res = logScan nb fr bl d.read (bl - 1 - i) i found sr
 jq:Jq Zr wr j c p room nb K fr bl d sr
 life:sr.life = life
 row:wr.ownsRow B 5 1 fv found.length (found.map (Value.int .u8))
 isb:Pl.isB found
 bw:B <= wr.heap.size
 wb:w.heap.size <= B
 nz:∀ k,B <= k -> ¬ Zr k
 len:found.length <= 497 * i
 gr:Gr Z Zr w
 bt:But Z w wr
def FlP (Z:Nat -> Prop) (w:World) (j c p room nb K fr bl:Nat) (d:Pd) (res:Js) (w':World):Prop:=(∃ Z',Jq Z' w' j c p room nb K fr bl d res /\ Gr Z Z' w) /\ But Z w w'
theorem Fl.stop {Z:Nat -> Prop} {w:World} {j c p room nb K fr bl:Nat} {d:Pd} {life:Nat} {res:Js} {i:Nat} {fv:Value} {wr:World} {found:List Int} {sr:Js} {B:Nat} {Zr:Nat -> Prop} (h:Fl Z w j c p room nb K fr bl d life res i fv wr found sr B Zr) (hr:res = sr) {w':World} (hb:Below wr.heap.size wr w'):FlP Z w j c p room nb K fr bl d res w':=by
 subst hr
 exact ⟨⟨Zr,h.jq.below hb,h.gr⟩,h.bt.trans (But.of_below hb)⟩
theorem findLog_any {Z:Nat -> Prop} {w:World} {j c p room nb K fr bl:Nat} {d:Pd} {s:Js} (h:Jq Z w j c p room nb K fr bl d s) (hn:Jn nb fr bl s) (hl:d.puts.length <= 1073741824) (hon:d.off = false) :
  Calls Tryz.prog 115 #[.pointer (some ⟨j,0,none⟩)] w fun e w'=> e = .returned (.int .i64 0) /\ FlP Z w j c p room nb K fr bl d (logScan nb fr bl d.read (bl - 1) 0 [] s) w':=by
 obtain ⟨res,hres⟩:∃ res,res = logScan nb fr bl d.read (bl - 1) 0 [] s:=⟨_,rfl⟩
 rw [<- hres]
 have hlo:=hn.lo
 have hfit:=hn.fit
 have hnb:=hn.nb
 obtain ⟨mv,hJ,hZj⟩:=h.cells
 have j1:=hJ.cell 1
 have j2:=hJ.cell 2
 simp at j1 j2
 have HA:=hid (jlogRoom_any (fr:Int) (bl:Int) (by omega) (by omega) w)
 have HL:=hid (And.intro hl hon)
 have HR:=hid hres
 have HJ:=hid h
 clear hJ h hn hl hon hres hZj
 generalize hlife:s.life = life at *
 have HLF:=hid hlife
 clear hlife
 go_enter Tryz.func115,Tryz.ntmps115
 go_wp2_with fail
 refine Calls.mono HA.out ?_
 rintro e w0 ⟨rfl,b0⟩
 have HF0:Hid (Fl Z w j c p room nb K fr bl d life res 0 (.slice none 0 0) w0 [] s w0.heap.size (fun k=> Z k /\ k < w.heap.size)):={
  res:=by rw [HR.out]; rfl
  jq:=HJ.out.cut.below b0
  life:=HLF.out
  row:=⟨rfl,.inl ⟨rfl,rfl⟩⟩
  isb:=Pl.isB_nil
  bw:=Nat.le_refl _
  wb:=b0.size
  nz:=fun k hk q=> by have:=q.2; have:=b0.size; omega
  len:=Nat.zero_le _
  gr:=fun k _ q=> q.1
  bt:=But.of_below b0 }
 clear b0 HA HR HJ HLF j1 j2
 have hbl:((bl:Int) - 1) = ((bl - 1:Nat):Int):=by omega
 rw [hbl]
 clear hbl
 generalize hN:bl - 1 = N at *
 go_wp2_with fail
 go_loopw [3,16] (fun fv iv wr=> ∃ i found sr B Zr,i <= N /\ iv = .int .i64 (i:Int) /\ Fl Z w j c p room nb K fr bl d life res i fv wr found sr B Zr) (fun _ iv _=> N - (intOf iv).toNat)
 case atStart=> exact ⟨0,[],s,_,_,Nat.zero_le _,rfl,HF0.out⟩
 case round=>
  clear HF0
  obtain ⟨i,found,sr,B,Zr,hi,rfl,hF⟩:=hrel
  by_cases hiN:i < N
  ·have hiN':(i:Int) < (N:Int):=by omega
   obtain ⟨mv1,hJb,_⟩:=hF.jq.cells
   have j1:=hJb.cell 1
   have j2:=hJb.cell 2
   simp at j1 j2
   obtain ⟨av,cv,hfv,_⟩:=owns_slice hF.row
   subst hfv
   have HB:=hid (jlogBlock_any (fr:Int) (bl:Int) (i:Int) (by omega) (by omega) (by omega) (by omega) wr)
   have HF:=hid hF
   clear hJb hF
   go_wp2_with fail
   refine Calls.mono HB.out ?_
   rintro e w1 ⟨rfl,b1⟩
   have HRd:=hid (readRecord_any (HF.out.jq.below b1) HL.out.1 HL.out.2 (fr + 1 + i) (by omega))
   rw [show (((fr + 1 + i:Nat)):Int) = (fr:Int) + 1 + (i:Int) by omega] at HRd
   have B1:=hid b1
   clear b1 HB j1 j2
   go_wp2_with fail
   refine Calls.mono HRd.out ?_
   rintro e w2 ⟨v,lf,rfl,hrec,b2⟩
   have B2:=hid (B1.out.trans (b2.mono B1.out.size))
   obtain ⟨mv2,hJb2,_⟩:=(HF.out.jq.below B2.out).cells
   have j3:=hJb2.cell 3
   simp at j3
   obtain ⟨k,hk⟩:∃ k,bl - 1 - i = k + 1:=⟨bl - 1 - i - 1,by omega⟩
   have hres:=HF.out.res
   rw [hk,logScan] at hres
   have HLf:=HF.out.life
   rw [HLf] at j3 hres
   generalize unZ (d.read (fr + 1 + i)) = o at *
   have HREC:=hid hrec
   have HRES:=hid hres
   have HK:=hid hk
   clear b2 B1 HRd hJb2 hrec hres hk HLf
   by_cases hA:lf = (life:Int) /\ lf ≠ 0
   ·obtain ⟨hA1,hA2⟩:=hA
    subst hA1
    cases ho:o with
    | none=> exact absurd (by have:=HREC.out; rw [ho] at this; exact this.2) hA2
    | some r=>
     obtain ⟨kd,l,body⟩:=r
     have hrc:=HREC.out
     rw [ho] at hrc
     obtain ⟨hl0,hv,hib,hbl497,_⟩:=hrc
     have hres:=HRES.out
     rw [ho] at hres
     simp only at hres
     rw [if_neg (by rw [<- hl0]; omega)] at hres
     have HRS:=hid hres
     clear hres HREC HRES ho
     rcases hv with ⟨rfl,rfl⟩ | ⟨rfl,g,rfl,hblk⟩ | ⟨rfl,g,rfl,hblk⟩ | ⟨h2,h3,h4,rfl⟩
     ·have hst:res = sr:=by have:=HRS.out; simpa using this
      have FIN:=hid (HF.out.stop hst B2.out)
      clear hst HRS HK B2 HF hib hbl497 hl0
      cases hdZ body with
      | none=>
       simp only [hdV]
       generalize (life:Int) = lv at *
       go_wp2_with (first | simp only [as5_nil] | simp only [as6_nil])
       all_goals first | done | (go_ret; exact ⟨rfl,FIN.out⟩)
      | some r=>
       obtain ⟨f1,f2,f3⟩:=r
       simp only [hdV]
       generalize (life:Int) = lv at *
       go_wp2_with (first | simp only [as5_143] | simp only [as6_143])
       all_goals first | done | (go_ret; exact ⟨rfl,FIN.out⟩)
     ·have hrow2:=owns_below HF.out.row B2.out
      have hlen:=HF.out.len
      have hs2:=B2.out.size
      obtain ⟨a3,c3,w3,hrun,hrow3,b3⟩:=grow_bytes 40 hrow2 hblk hbl497 (by omega) (Nat.le_trans HF.out.bw hs2)
      have hrun':=(app145 40 av found.length cv (.slice (some ⟨g,0,none⟩) body.length body.length) w2).trans hrun
      have FN:Hid (Fl Z w j c p room nb K fr bl d life res (i + 1) (.slice a3 (found.length + body.length) c3) w3 (found ++ body) sr B Zr):={
       res:=by
        have h1:=HRS.out
        have h2:=HK.out
        rw [show bl - 1 - (i + 1) = k by omega]
        simpa using h1
       jq:=(HF.out.jq.below B2.out).but b3 (fun x hx hz q=> HF.out.nz x q hz)
       life:=HF.out.life
       row:=by rw [List.length_append]; exact hrow3
       isb:=fun z hz=> (List.mem_append.1 hz).elim (HF.out.isb z) (hib z)
       bw:=by have:=HF.out.bw; have:=b3.size; omega
       wb:=HF.out.wb
       nz:=HF.out.nz
       len:=by rw [List.length_append]; omega
       gr:=HF.out.gr
       bt:=(HF.out.bt.trans (But.of_below B2.out)).comp b3 (fun x hx q=> by have:=HF.out.wb; omega) }
      clear hrow2 hrow3 b3 hrun hlen hs2 hblk hib HRS HK B2 HF hl0 hbl497
      generalize body.length = bn at *
      generalize found.length = fn at *
      generalize (life:Int) = lv at *
      go_wp2_with (first | simp only [as5_145] | (at_builtin; refine Lib.wpList_append_run _ rfl _ _ _ _ rfl _ _ rfl rfl _ _ hrun' ?_))
      refine ⟨⟨i + 1,found ++ body,sr,B,Zr,by omega,by go_num,FN.out⟩,?_⟩
      simp [intOf]
      omega
     ·have hrow2:=owns_below HF.out.row B2.out
      have hlen:=HF.out.len
      have hs2:=B2.out.size
      obtain ⟨a3,c3,w3,hrun,hrow3,b3⟩:=grow_bytes 40 hrow2 hblk hbl497 (by omega) (Nat.le_trans HF.out.bw hs2)
      have hrun':=(app146 40 av found.length cv (.slice (some ⟨g,0,none⟩) body.length body.length) w2).trans hrun
      have hJ3:=(HF.out.jq.below B2.out).but b3 (fun x hx hz q=> HF.out.nz x q hz)
      have hbt3:But Z w w3:=(HF.out.bt.trans (But.of_below B2.out)).comp b3 (fun x hx q=> by have:=HF.out.wb; omega)
      have hib3:Pl.isB (found ++ body):=fun z hz=> (List.mem_append.1 hz).elim (HF.out.isb z) (hib z)
      obtain ⟨hrd3,hcap3⟩:=rdn_of_owns (X:=Zr) hrow3 hib3 HF.out.nz
      have HTF:=hid (takeFound_any hJ3 hfit a3 (found.length + body.length) c3 (found ++ body) hrd3 hcap3 (by omega))
      have hres4:res = if okFound nb fr bl sr.seq (found ++ body) then logScan nb fr bl d.read k (i + 1) [] ⟨sr.life,sr.seq + 1,i + 1,aheadP sr.ah (putsZ (found ++ body))⟩ else sr:=by have:=HRS.out; rw [HF.out.life]; simpa using this
      have KK:=hid (And.intro hres4 (And.intro hbt3 (And.intro HF.out.gr (And.intro HF.out.life HK.out))))
      have hlf:=HF.out.life
      clear hrow2 hrow3 b3 hrun hlen hs2 hblk hib HRS HK B2 HF hl0 hbl497 hJ3 hbt3 hib3 hrd3 hcap3 hres4
      generalize hok:okFound nb fr bl sr.seq (found ++ body) = ok at *
      generalize hzz:found ++ body = zz at *
      clear hzz hok
      generalize body.length = bn at *
      generalize found.length = fn at *
      generalize (life:Int) = lv at *
      go_wp2_with (first | simp only [as5_146] | simp only [as6_146] | (at_builtin; refine Lib.wpList_append_run _ rfl _ _ _ _ rfl _ _ rfl rfl _ _ hrun' ?_) | fail)
      refine Calls.mono HTF.out ?_
      rintro e w4 ⟨rfl,⟨Z4,hJ4,hG4⟩,b4⟩
      have hs3:=KK.out.2.1.size
      have hbt4:But Z w w4:=KK.out.2.1.comp b4 (fun x hx q=> KK.out.2.2.1 x hx q)
      have hgr4:Gr Z Z4 w:=KK.out.2.2.1.trans hG4 hs3
      cases ok with
      | false=>
       have hst:res = sr:=by have:=KK.out.1; simpa using this
       have FIN:Hid (FlP Z w j c p room nb K fr bl d res w4):=by rw [hst]; exact ⟨⟨Z4,hJ4,hgr4⟩,hbt4⟩
       clear hst KK hJ4 hG4 b4 hbt4 hgr4 HTF hrun'
       go_wp2
       go_ret
       exact ⟨rfl,FIN.out⟩
      | true=>
       have hJ4':Jq Z4 w4 j c p room nb K fr bl d ⟨sr.life,sr.seq + 1,sr.used,aheadP sr.ah (putsZ zz)⟩:=hJ4
       obtain ⟨Zc,m,n,D,a,hW⟩:=hJ4'.cut
       have j5:=hW.jb.cell 5
       have f5:=hW.jb.frozen 5
       simp at j5
       obtain ⟨w5,hw5⟩:∃ w5,w5 = w4.setCell ⟨j,5,none⟩ (.int .i64 ((i:Int) + 1)):=⟨_,rfl⟩
       have J5:Jb w5 j c fr bl sr.life ((sr.seq:Int) + 1) ((i:Int) + 1) (.map (some m)):=by rw [hw5]; simpa [Jb] using hW.jb.set 5 (.int .i64 ((i:Int) + 1))
       have bb:But (fun k=> k = j) w4 w5:=by rw [hw5]; exact (But.refl (fun y=> y = j) w4).setCell (p:=⟨j,5,none⟩) (show (fun y=> y = j) j from rfl) _
       have hzj:=hW.zj
       have hwr:IntKind.i64.wrap ((i:Int) + 1) = (i:Int) + 1:=by rw [IntKind.wrap_i64]; omega
       have FN:Hid (Fl Z w j c p room nb K fr bl d life res (i + 1) (.slice none 0 0) w5 [] ⟨sr.life,sr.seq + 1,i + 1,aheadP sr.ah (putsZ zz)⟩ w5.heap.size (fun k=> Z4 k /\ k < w4.heap.size)):={
        res:=by
         have h1:=KK.out.1
         have h2:=KK.out.2.2.2.2
         rw [show bl - 1 - (i + 1) = k by omega]
         simpa using h1
        jq:=⟨Zc,m,n,D,a,hW.rejb (s':=⟨sr.life,sr.seq + 1,i + 1,aheadP sr.ah (putsZ zz)⟩) bb (by simpa using J5) rfl⟩
        life:=KK.out.2.2.2.1
        row:=⟨rfl,.inl ⟨rfl,rfl⟩⟩
        isb:=Pl.isB_nil
        bw:=Nat.le_refl _
        wb:=Nat.le_trans hbt4.size bb.size
        nz:=fun x hx q=> by have:=q.2; have:=bb.size; omega
        len:=Nat.zero_le _
        gr:=fun x hx q=> hgr4 x hx q.1
        bt:=hbt4.comp bb (fun x hx e=> by rw [e]; exact hgr4 j (by rw [<- e]; exact hx) hzj.1) }
       clear KK hJ4 hJ4' hG4 b4 hbt4 hgr4 HTF hrun' hW J5 bb hzj
       go_wp2_with fail
       rw [<- hw5]
       refine ⟨⟨i + 1,[],⟨sr.life,sr.seq + 1,i + 1,aheadP sr.ah (putsZ zz)⟩,_,_,by omega,by go_num,FN.out⟩,?_⟩
       simp [intOf]
       omega
     ·have hst:res = sr:=by have:=HRS.out; simpa [h3,h4] using this
      have FIN:=hid (HF.out.stop hst B2.out)
      clear hst HRS HK B2 HF hib hbl497 hl0 h2 h3 h4
      generalize (life:Int) = lv at *
      go_wp2_with (first | simp only [as5_nil] | simp only [as6_nil])
      all_goals first | done | (go_ret; exact ⟨rfl,FIN.out⟩)
   ·have hst:res = sr:=by
     have hrc:=HREC.out
     have hres:=HRES.out
     cases ho:o with
     | none=> rw [ho] at hres; exact hres
     | some r=>
      obtain ⟨kd,l,body⟩:=r
      rw [ho] at hrc hres
      simp only at hres
      rw [if_pos (by
       rw [hrc.1] at hA
       by_cases q:l = (life:Int)
       ·exact .inr (Classical.byContradiction fun r=> hA ⟨q,r⟩)
       ·exact .inl q)] at hres
      exact hres
    have FIN:=hid (HF.out.stop hst B2.out)
    have hA':¬ lf = (life:Int) \/ lf = 0:=by
     by_cases q:lf = (life:Int)
     ·exact .inr (Classical.byContradiction fun r=> hA ⟨q,r⟩)
     ·exact .inl q
    clear hst HREC HRES HK hA B2 HF
    generalize (life:Int) = lv at *
    rcases hA' with hA' | hA'
    ·go_wp2
     go_ret
     exact ⟨rfl,FIN.out⟩
    ·subst hA'
     by_cases hlv:lv = 0
     ·subst hlv
      go_wp2
      go_ret
      exact ⟨rfl,FIN.out⟩
     ·have hlv':¬ 0 = lv:=fun q=> hlv q.symm
      go_wp2
      go_ret
      exact ⟨rfl,FIN.out⟩
  ·have hiN':¬ (i:Int) < (N:Int):=by omega
   have hst:res = sr:=by
    have:=hF.res
    rw [show bl - 1 - i = 0 by omega] at this
    exact this
   have FIN:=hid (hF.stop hst (Below.refl _ _))
   clear hF hst
   go_wp2
   go_ret
   exact ⟨rfl,FIN.out⟩
open Go.RowKit
theorem saysWhose_any {w:World} {g cap:Nat} {zs:List Int} (ho:Own w g 512 cap zs) (hb:Pl.isB zs):Calls Tryz.prog 161 #[.slice (some ⟨g,0,none⟩) 512 cap] w fun e w'=> e = .returned (.bool (decide (zs.getD 0 0 = 2 \/ zs.getD 0 0 = 1))) /\ w' = w:=by
 have c0:=ho.cell 0 (by omega)
 have hk:=Pl.isB_getD hb 0
 have hk2:zs.getD 0 0 = zs[0]?.getD 0:=by simp
 rw [<- hk2] at hk
 generalize zs.getD 0 0 = k at *
 have hw:IntKind.i64.wrap k = k:=by rw [IntKind.wrap_i64]; omega
 clear ho hb hk2
 by_cases h2:k = 2
 ·subst h2
  go_enter Tryz.func161,Tryz.ntmps161
  go_wp2
  go_ret
  exact ⟨by simp,rfl⟩
 ·by_cases h1:k = 1
  ·subst h1
   go_enter Tryz.func161,Tryz.ntmps161
   go_wp2
   go_ret
   exact ⟨by simp,rfl⟩
  ·go_enter Tryz.func161,Tryz.ntmps161
   go_wp2
   go_ret
   exact ⟨by simp [h1,h2],rfl⟩
theorem okW_eight:okW [8]:=by
 intro x hx
 simp at hx
 subst hx
 rfl
def toCome (life:Nat) (zs:List Int):Bool:=decide (Pl.num ((zs.drop 3).take 8) <= 9223372036854775807) && (decide (life ≠ 0) && decide ((life:Int) < Pl.num ((zs.drop 3).take 8)))
theorem isToCome_any {Z:Nat -> Prop} {w:World} {j c p room nb K fr bl:Nat} {d:Pd} {s:Js} (h:Jq Z w j c p room nb K fr bl d s) {g cap:Nat} {zs:List Int} (ho:Own w g 512 cap zs) (hb:Pl.isB zs):Calls Tryz.prog 162 #[.pointer (some ⟨j,0,none⟩),.slice (some ⟨g,0,none⟩) 512 cap] w fun e w'=> e = .returned (.bool (toCome s.life zs)) /\ Below w.heap.size w w':=by
 obtain ⟨mv,hJ,hZj⟩:=h.cells
 have hcap:=ho.cap
 obtain ⟨w1,hw1⟩:∃ w1,w1 = w.alloc (.cells #[.int .i64 8] 3):=⟨_,rfl⟩
 have b1:Below w.heap.size w w1:=by rw [hw1]; exact (Below.refl _ _).alloc (Nat.le_refl _) _
 have z1:w1.heap.size = w.heap.size + 1:=by rw [hw1]; simp
 have hR:Rd w1.heap.size w1 (some ⟨g,3,none⟩) 8 ((zs.drop 3).take 8):=by
  have r1:=rd_part (ho.rd hb) 3 8 (by omega) ho.lt
  rw [Nat.zero_add] at r1
  exact (r1.below b1).mono (by omega)
 have hRI:RdI w1.heap.size w1 (some ⟨w.heap.size,0,none⟩) 1 [8]:=⟨rfl,.inr ⟨w.heap.size,0,rfl,by omega,fun t ht=> by
  rw [hw1]
  rcases t with _ | t
  ·exact cell_new rfl 0 _ rfl
  ·omega⟩⟩
 obtain ⟨v0,hv0⟩:∃ v0,v0 = Pl.num ((zs.drop 3).take 8):=⟨_,rfl⟩
 have hvk:valK ((zs.drop 3).take 8) [8] 0 = v0:=by rw [hv0]; simp [valK,sumW,List.take_take]
 have hJ1:=(h.below b1).cells
 have j3:=hJ.cell 3
 simp at j3
 have hjl:=hJ.lt
 obtain ⟨lv,hlv⟩:∃ lv:Int,lv = (s.life:Int):=⟨_,rfl⟩
 have htc:toCome s.life zs = (decide (v0 <= 9223372036854775807) && (decide (lv ≠ 0) && decide (lv < v0))):=by
  unfold toCome
  rw [<- hv0,hlv]
  congr 2
  simp
 rw [htc]
 rw [<- hlv] at j3
 have y1:¬ cap = 3:=by omega
 have x1:(11:Int) <= (cap:Int):=by omega
 have B1:=hid b1
 by_cases hv:v0 <= 9223372036854775807
 ·have HU:=hid (Unpack_ok (some ⟨g,3,none⟩) (some ⟨w.heap.size,0,none⟩) 8 (cap - 3) 1 1 ((zs.drop 3).take 8) [8] w1 (by omega) (by omega) hR hRI okW_eight rfl (fun k hk=> by
   rcases k with _ | k
   ·rw [hvk]; exact hv
   ·omega))
  rw [show vals ((zs.drop 3).take 8) [8] 1 = [v0] by simp [vals,hvk]] at HU
  have HJ:=hid hJ
  have hbl:decide (v0 <= 9223372036854775807) = true:=decide_eq_true hv
  rw [hbl]
  clear hbl hR hRI hvk hv0 htc hlv hJ1 hJ h ho hb b1 hv z1
  by_cases hlz:lv = 0
  ·subst hlz
   go_enter Tryz.func162,Tryz.ntmps162
   go_wp2_with fail
   rw [<- hw1]
   refine Calls.mono HU.out ?_
   rintro e w2 ⟨g2,rfl,hg2,hb2,b2⟩
   have B2:=hid (B1.out.trans (b2.mono B1.out.size))
   have k3:=(B2.out.cell (p:=⟨j,3,none⟩) hjl).trans j3
   clear b2 hb2 hg2 HU hw1 B1 j3
   go_wp2_with fail
   go_region
   all_goals
    go_wp2
    go_ret
    exact ⟨by simp,by simpa using B2.out.drew⟩
  ·have hne:(lv != 0) = true:=by simpa using hlz
   by_cases hlt:lv < v0
   ·go_enter Tryz.func162,Tryz.ntmps162
    go_wp2_with fail
    rw [<- hw1]
    refine Calls.mono HU.out ?_
    rintro e w2 ⟨g2,rfl,hg2,hb2,b2⟩
    have B2:=hid (B1.out.trans (b2.mono B1.out.size))
    have k3:=(B2.out.cell (p:=⟨j,3,none⟩) hjl).trans j3
    have c0:=hb2.cell 0 (by simp)
    simp at c0
    clear b2 hb2 hg2 HU hw1 B1 j3
    go_wp2_with fail
    go_region_held3 (fun w'=> w'.cell? ⟨j,3,none⟩ = some (.int .i64 lv) /\ w'.cell? ⟨g2,0,none⟩ = some (.int .i64 v0)) (first | (exact ⟨by assumption,by assumption⟩) | go_keep) (fail)
    go_wp2
    go_ret
    exact ⟨by simp [hlz,hlt],by simpa using B2.out.drew⟩
   ·go_enter Tryz.func162,Tryz.ntmps162
    go_wp2_with fail
    rw [<- hw1]
    refine Calls.mono HU.out ?_
    rintro e w2 ⟨g2,rfl,hg2,hb2,b2⟩
    have B2:=hid (B1.out.trans (b2.mono B1.out.size))
    have k3:=(B2.out.cell (p:=⟨j,3,none⟩) hjl).trans j3
    have c0:=hb2.cell 0 (by simp)
    simp at c0
    clear b2 hb2 hg2 HU hw1 B1 j3
    go_wp2_with fail
    go_region_held3 (fun w'=> w'.cell? ⟨j,3,none⟩ = some (.int .i64 lv) /\ w'.cell? ⟨g2,0,none⟩ = some (.int .i64 v0)) (first | (exact ⟨by assumption,by assumption⟩) | go_keep) (fail)
    go_wp2
    go_ret
    exact ⟨by simp [hlz],by simpa using B2.out.drew⟩
 ·have HU:=hid (Unpack_value (some ⟨g,3,none⟩) (some ⟨w.heap.size,0,none⟩) 8 (cap - 3) 1 1 ((zs.drop 3).take 8) [8] w1 (by omega) (by omega) hR hRI okW_eight rfl ⟨0,by omega,by rw [hvk]; omega⟩)
  have hbl:decide (v0 <= 9223372036854775807) = false:=decide_eq_false hv
  rw [hbl]
  clear hbl hR hRI hvk hv0 htc hlv hJ1 hJ h ho hb b1 hv z1
  go_enter Tryz.func162,Tryz.ntmps162
  go_wp2_with fail
  rw [<- hw1]
  refine Calls.mono HU.out ?_
  rintro e w2 ⟨rfl,b2⟩
  have B2:=hid (B1.out.trans (b2.mono B1.out.size))
  have k3:=(B2.out.cell (p:=⟨j,3,none⟩) hjl).trans j3
  clear b2 HU hw1 B1 j3
  unfold perr
  go_wp2_with fail
  go_region
  all_goals
   go_wp2
   go_ret
   exact ⟨by simp,by simpa using B2.out.drew⟩
def foreign (life:Nat) (zs:List Int):Bool:=(decide (zs.getD 0 0 = 2 \/ zs.getD 0 0 = 1) || toCome life zs) && (unZ zs).isSome
theorem isForeign_any {Z:Nat -> Prop} {w:World} {j c p room nb K fr bl:Nat} {d:Pd} {s:Js} (h:Jq Z w j c p room nb K fr bl d s) {g cap:Nat} {zs:List Int} (ho:Own w g 512 cap zs) (hb:Pl.isB zs):Calls Tryz.prog 143 #[.pointer (some ⟨j,0,none⟩),.slice (some ⟨g,0,none⟩) 512 cap] w fun e w'=> e = .returned (.bool (foreign s.life zs)) /\ Below w.heap.size w w':=by
 have HW:=hid (saysWhose_any ho hb)
 have HC:=hid (isToCome_any h ho hb)
 have HUn:Hid (∀ w1,Below w.heap.size w w1 -> Calls Tryz.prog 155 #[.slice (some ⟨g,0,none⟩) 512 cap] w1 fun e w'=> UnP w1 (unZ zs) e w' /\ Below w1.heap.size w1 w'):=fun w1 b1=> Unstamp_any (ho.keep (b1.block g ho.lt)) hb
 unfold foreign
 generalize decide (zs.getD 0 0 = 2 \/ zs.getD 0 0 = 1) = bw at *
 generalize toCome s.life zs = bc at *
 generalize unZ zs = o at *
 clear h ho hb
 have TAIL:Hid (∀ w1,Below w.heap.size w w1 -> Calls Tryz.prog 155 #[.slice (some ⟨g,0,none⟩) 512 cap] w1 fun e w'=> Below w.heap.size w w' /\ ∃ k l v code,e = .returned (.tuple #[.int .i64 k,.int .i64 l,v,.int .i64 code]) /\ (decide (code = 0) = o.isSome)):=fun w1 b1=> by
  refine Calls.mono (HUn.out w1 b1) ?_
  rintro e w' ⟨hu,b2⟩
  refine ⟨b1.trans (b2.mono b1.size),?_⟩
  cases o with
  | none=>
   obtain ⟨code,rfl,hc⟩:=hu
   exact ⟨_,_,_,code,rfl,by simp [hc]⟩
  | some r=>
   obtain ⟨k,l,body⟩:=r
   obtain ⟨g2,rfl,_⟩:=hu
   exact ⟨_,_,_,0,rfl,by simp⟩
 clear HUn
 cases bw with
 | true=>
  go_enter Tryz.func143,Tryz.ntmps143
  go_wp2_with fail
  refine Calls.mono HW.out ?_
  rintro e w1 ⟨rfl,hw1⟩
  rw [hw1]
  clear hw1 HW HC
  have T1:=hid (TAIL.out w (Below.refl _ _))
  go_wp2_with fail
  refine Calls.mono T1.out ?_
  rintro e w2 ⟨b2,k,l,v,code,rfl,hc⟩
  have FIN:=hid (And.intro b2 hc)
  clear b2 hc T1 TAIL
  go_wp2
  go_ret
  refine ⟨?_,FIN.out.1⟩
  rw [<- FIN.out.2]
  simp
  rfl
 | false=>
  cases bc with
  | true=>
   go_enter Tryz.func143,Tryz.ntmps143
   go_wp2_with fail
   refine Calls.mono HW.out ?_
   rintro e w1 ⟨rfl,hw1⟩
   rw [hw1]
   clear hw1 HW
   go_wp2_with fail
   refine Calls.mono HC.out ?_
   rintro e w1 ⟨rfl,b1⟩
   have T1:=hid (TAIL.out w1 b1)
   clear b1 HC TAIL
   go_wp2_with fail
   refine Calls.mono T1.out ?_
   rintro e w2 ⟨b2,k,l,v,code,rfl,hc⟩
   have FIN:=hid (And.intro b2 hc)
   clear b2 hc T1
   go_wp2
   go_ret
   refine ⟨?_,FIN.out.1⟩
   rw [<- FIN.out.2]
   simp
   rfl
  | false=>
   go_enter Tryz.func143,Tryz.ntmps143
   go_wp2_with fail
   refine Calls.mono HW.out ?_
   rintro e w1 ⟨rfl,hw1⟩
   rw [hw1]
   clear hw1 HW
   go_wp2_with fail
   refine Calls.mono HC.out ?_
   rintro e w1 ⟨rfl,b1⟩
   have FIN:=hid b1
   clear b1 HC TAIL
   go_wp2
   go_ret
   exact ⟨by simp,FIN.out⟩
open Go.RowKit Go.Shelf
def equalA_ren:Go.Shelf.Ren:=⟨fun | 115=> 142 | n=> n,fun | 37=> 40 | 4=> 4 | 9=> 9 | 5=> 5 | n=> n,fun | n=> n⟩
theorem equalA:Go.Proofs.Lays.nb115 Tryz.prog equalA_ren:={
 mixed:=by kernel_rfl
 f115:=Tryz.func142.trans (congrArg some (by kernel_rfl))
 t4:=Tryz.underlying4
 a4:=Tryz.isAgg4
 z4:=Tryz.sizeOf4
 v4:=Tryz.zeroValue4
 t9:=Tryz.underlying9
 a9:=Tryz.isAgg9
 z9:=Tryz.sizeOf9
 v9:=Tryz.zeroValue9
 t37:=Tryz.underlying40
 a37:=Tryz.isAgg40
 z37:=Tryz.sizeOf40
 v37:=Tryz.zeroValue40
 t5:=Tryz.underlying5
 a5:=Tryz.isAgg5
 z5:=Tryz.sizeOf5
 v5:=Tryz.zeroValue5 }
theorem bytes_inj:∀ {xs ys:List Int},Pl.isB xs -> Pl.isB ys -> Lib.bytesOf xs = Lib.bytesOf ys -> xs = ys
 | [],[],_,_,_=> rfl
 | [],_ :: _,_,_,h=> by simp [Lib.bytesOf] at h
 | _ :: _,[],_,_,h=> by simp [Lib.bytesOf] at h
 | x :: xs,y :: ys,hx,hy,h=> by
  simp only [Lib.bytesOf,List.map_cons,List.cons.injEq] at h
  have h1:=hx x (by simp)
  have h2:=hy y (by simp)
  have e:x = y:=by
   have:=congrArg UInt8.toNat h.1
   simp at this
   omega
  rw [e,bytes_inj (fun z hz=> hx z (by simp [hz])) (fun z hz=> hy z (by simp [hz])) h.2]
theorem Equal_any {w:World} {g1 c1 g2 c2:Nat} {xs ys:List Int} (h1:Own w g1 512 c1 xs) (h2:Own w g2 512 c2 ys) (b1:Pl.isB xs) (b2:Pl.isB ys):Calls Tryz.prog 142 #[.slice (some ⟨g1,0,none⟩) 512 c1,.slice (some ⟨g2,0,none⟩) 512 c2] w fun e w'=> e = .returned (.bool (decide (xs = ys))) /\ w' = w:=by
 refine Calls.mono (Any.bytes_Equal_all equalA (some ⟨g1,0,none⟩) (some ⟨g2,0,none⟩) 512 c1 512 c2 xs ys w h1.len h2.len (fun _=> ⟨g1,0,rfl,fun i hi=> by rw [Nat.zero_add]; exact h1.cell i hi⟩) (fun _=> ⟨g2,0,rfl,fun i hi=> by rw [Nat.zero_add]; exact h2.cell i hi⟩)) ?_
 rintro e w' ⟨rfl,rfl⟩
 refine ⟨?_,rfl⟩
 congr 2
 by_cases q:xs = ys
 ·simp [q]
 ·have:¬ Lib.bytesOf xs = Lib.bytesOf ys:=fun r=> q (bytes_inj b1 b2 r)
  simp [q,this]
def otherAt (fr bl life:Nat) (rd:Nat -> List Int) (i:Nat):Bool:=!decide (rd (fr + 1 + i) = blankZ fr bl) && foreign life (rd (fr + 1 + i))
def NoP (fr bl:Nat) (s:Js) (rd:Nat -> List Int) (e:Ending):Prop :=
 (e = .returned (.int .i64 0) /\ ∀ i,s.used <= i -> i < bl - 1 -> otherAt fr bl s.life rd i = false) \/ (e = .returned (.int .i64 41) /\ ∃ i,s.used <= i /\ i < bl - 1 /\ otherAt fr bl s.life rd i = true)
theorem findNoOther_any {Z:Nat -> Prop} {w:World} {j c p room nb K fr bl:Nat} {d:Pd} {s:Js} (h:Jq Z w j c p room nb K fr bl d s) (hn:Jn nb fr bl s) (hl:d.puts.length <= 1073741824) (hon:d.off = false) :
  Calls Tryz.prog 116 #[.pointer (some ⟨j,0,none⟩)] w fun e w'=> NoP fr bl s d.read e /\ Below w.heap.size w w':=by
 have hlo:=hn.lo
 have hfit:=hn.fit
 have hnb:=hn.nb
 have hus:=hn.used
 obtain ⟨mv,hJ,hZj⟩:=h.cells
 have j1:=hJ.cell 1
 have j2:=hJ.cell 2
 simp at j1 j2
 have HB:=hid (stamped_blank (fr:=fr) (bl:=bl) (by omega) (by omega) w)
 have HL:=hid (And.intro hl hon)
 have HJ:=hid h
 clear hJ h hn hl hon hZj
 go_enter Tryz.func116,Tryz.ntmps116
 go_wp2_with fail
 refine Calls.mono HB.out ?_
 rintro e w1 ⟨g0,rfl,hg0,hblk,b1⟩
 have hJ1:=HJ.out.below b1
 obtain ⟨mv1,hJb1,_⟩:=hJ1.cells
 have k5:=hJb1.cell 5
 simp at k5
 have HO:=hid (Own.of_blk hblk (blankZ_ok fr bl).1 (by unfold maxLen; omega))
 have HJ1:=hid hJ1
 have HB1:=hid b1
 clear hg0 hblk b1 HB j1 j2 hJ1 hJb1 HJ
 generalize hN:bl - 1 = N at *
 go_wp2_with fail
 go_loopw [5] (fun iv wr=> ∃ i:Nat,s.used <= i /\ i <= N /\ iv = .int .i64 (i:Int) /\ (∀ t,s.used <= t -> t < i -> otherAt fr bl s.life d.read t = false) /\ Below w1.heap.size w1 wr) (fun iv _=> N - (intOf iv).toNat)
 case atStart=> exact ⟨s.used,Nat.le_refl _,by omega,rfl,fun t h1 h2=> by omega,Below.refl _ _⟩
 case round=>
  obtain ⟨i,hiu,hi,rfl,hall,hbt⟩:=hrel
  have hJr:=HJ1.out.below hbt
  obtain ⟨mvr,hJbr,_⟩:=hJr.cells
  have j1:=hJbr.cell 1
  have j2:=hJbr.cell 2
  simp at j1 j2
  have HA:=hid (jlogRoom_any (fr:Int) (bl:Int) (by omega) (by omega) wr)
  have HJr:=hid hJr
  have HBt:=hid hbt
  have HALL:=hid hall
  clear hJr hJbr hbt hall k5
  go_wp2_with fail
  refine Calls.mono HA.out ?_
  rintro e w2 ⟨rfl,b2⟩
  have hb1:((bl:Int) - 1) = (N:Int):=by omega
  rw [hb1]
  have HB2:=hid (HBt.out.trans (b2.mono HBt.out.size))
  have hJ2:=HJr.out.below b2
  obtain ⟨mv2,hJb2,_⟩:=hJ2.cells
  obtain ⟨_,hc0,hcl⟩:=hJ2.dk
  have m0:=hJb2.cell 0
  have m1:=hJb2.cell 1
  have m2:=hJb2.cell 2
  simp at m0 m1 m2
  have hjl:=hJb2.lt
  have HJ2:=hid hJ2
  clear hb1 b2 HA j1 j2 hJ2 hJb2 HBt
  by_cases hiN:i < N
  ·have hiN':(i:Int) < (N:Int):=by omega
   have HLB:=hid (jlogBlock_any (fr:Int) (bl:Int) (i:Int) (by omega) (by omega) (by omega) (by omega) w2.drew)
   have HRD:Hid (∀ w3,Below w2.heap.size w2 w3 -> (Calls Tryz.prog 141 #[.pointer (some ⟨p,0,none⟩),.int .i64 ((fr:Int) + 1 + (i:Int))] w3 fun e w'=> ∃ g cp,e = .returned (.tuple #[.slice (some ⟨g,0,none⟩) 512 cp,.int .i64 0]) /\ w3.heap.size <= g /\ Own w' g 512 cp (d.read (fr + 1 + i)) /\ Below w3.heap.size w3 w') /\ Pl.isB (d.read (fr + 1 + i))):=fun w3 b3=> by
    have q:=(HJ2.out.below b3).dread HL.out.1 HL.out.2 (fr + 1 + i) (by omega)
    rw [show (((fr + 1 + i:Nat)):Int) = (fr:Int) + 1 + (i:Int) by omega] at q
    exact ⟨q.1,q.2.2⟩
   go_wp2_with fail
   go_region_held3 (fun w'=> w'.cell? ⟨j,0,none⟩ = some (.pointer (some ⟨c,0,none⟩)) /\ w'.cell? ⟨j,1,none⟩ = some (.int .i64 (fr:Int)) /\ w'.cell? ⟨j,2,none⟩ = some (.int .i64 (bl:Int)) /\ w'.cell? ⟨c,0,none⟩ = some (.pointer (some ⟨p,0,none⟩))) (first | (exact ⟨by assumption,by assumption,by assumption,by assumption⟩) | go_keep) (first
    | (go_at_call 132; refine Calls.mono HLB.out ?_; rintro e w3 ⟨rfl,b3⟩; have B3:Hid (Below w2.heap.size w2 w3):=⟨b3.os,b3.tape,b3.output,b3.size,b3.block⟩; have n0:=(B3.out.cell (p:=⟨j,0,none⟩) hjl).trans m0; have n1:=(B3.out.cell (p:=⟨j,1,none⟩) hjl).trans m1; have n2:=(B3.out.cell (p:=⟨j,2,none⟩) hjl).trans m2; have nc:=(B3.out.cell (p:=⟨c,0,none⟩) hcl).trans hc0; clear b3)
    | (go_at_call 141; refine Calls.mono (HRD.out _ B3.out).1 ?_; rintro e w4 ⟨g4,cp4,rfl,hg4,ho4,b4⟩; have B4:=hid (B3.out.trans (b4.mono B3.out.size)); have q0:=(B4.out.cell (p:=⟨j,0,none⟩) hjl).trans m0; have q1:=(B4.out.cell (p:=⟨j,1,none⟩) hjl).trans m1; have q2:=(B4.out.cell (p:=⟨j,2,none⟩) hjl).trans m2; have qc:=(B4.out.cell (p:=⟨c,0,none⟩) hcl).trans hc0; have HO4:=hid ho4; clear b4 ho4))
   have hisb:=(HRD.out _ B3.out).2
   have hbw4:Below w1.heap.size w1 w4:=HB2.out.trans (B4.out.mono HB2.out.size)
   have HE:=hid (Equal_any HO4.out (HO.out.keep (hbw4.block g0 HO.out.lt)) hisb (blankZ_ok fr bl).2)
   have HFo:=hid (isForeign_any (HJ2.out.below B4.out) HO4.out hisb)
   have HB4:=hid hbw4
   have HBw:=hid (HB1.out.trans (hbw4.mono HB1.out.size))
   have hoa:otherAt fr bl s.life d.read i = (!decide (d.read (fr + 1 + i) = stampZ 1 0 (blankB fr bl)) && foreign s.life (d.read (fr + 1 + i))):=rfl
   generalize decide (d.read (fr + 1 + i) = stampZ 1 0 (blankB fr bl)) = be at *
   generalize foreign s.life (d.read (fr + 1 + i)) = bf at *
   have HOA:=hid hoa
   clear hisb hbw4 HO4 B3 B4 HRD HLB n0 n1 n2 nc q0 q1 q2 qc m0 m1 m2 hc0 hcl hjl HJ2 hoa hg4
   cases be with
   | true=>
    go_wp2_with fail
    refine Calls.mono HE.out ?_
    rintro e w5 ⟨rfl,hw5⟩
    rw [hw5]
    clear hw5 HE HFo
    go_wp2_with fail
    go_roundw
    case rel=> exact ⟨i + 1,by omega,by omega,by go_num,fun t h1 h2=> by
      by_cases q:t = i
      ·rw [q,HOA.out]; rfl
      ·exact HALL.out t h1 (by omega),HB4.out⟩
    case measure=> simp [intOf]; omega
   | false=>
    cases bf with
    | true=>
     go_wp2_with fail
     refine Calls.mono HE.out ?_
     rintro e w5 ⟨rfl,hw5⟩
     rw [hw5]
     clear hw5 HE
     go_wp2_with fail
     refine Calls.mono HFo.out ?_
     rintro e w5 ⟨rfl,b5⟩
     have FIN:Hid (NoP fr bl s d.read (.returned (.int .i64 41)) /\ Below w.heap.size w w5):=⟨.inr ⟨rfl,i,hiu,by omega,HOA.out⟩,HBw.out.trans (b5.mono HBw.out.size)⟩
     clear b5 HFo
     go_wp2
     go_ret
     exact FIN.out
    | false=>
     go_wp2_with fail
     refine Calls.mono HE.out ?_
     rintro e w5 ⟨rfl,hw5⟩
     rw [hw5]
     clear hw5 HE
     go_wp2_with fail
     refine Calls.mono HFo.out ?_
     rintro e w5 ⟨rfl,b5⟩
     have HB5:=hid (HB4.out.trans (b5.mono HB4.out.size))
     clear b5 HFo
     go_wp2_with fail
     go_roundw
     case rel=> exact ⟨i + 1,by omega,by omega,by go_num,fun t h1 h2=> by
       by_cases q:t = i
       ·rw [q,HOA.out]; rfl
       ·exact HALL.out t h1 (by omega),HB5.out⟩
     case measure=> simp [intOf]; omega
  ·have hiN':¬ (i:Int) < (N:Int):=by omega
   have FIN:Hid (NoP fr bl s d.read (.returned (.int .i64 0)) /\ Below w.heap.size w w2):=⟨.inl ⟨rfl,fun t h1 h2=> HALL.out t h1 (by omega)⟩,HB1.out.trans (HB2.out.mono HB1.out.size)⟩
   clear HALL HB2 HJ2 HJr m0 m1 m2 hc0
   go_wp2
   go_ret
   exact FIN.out
end Go.Proofs.YthfojpcibnfmgaaGreat
