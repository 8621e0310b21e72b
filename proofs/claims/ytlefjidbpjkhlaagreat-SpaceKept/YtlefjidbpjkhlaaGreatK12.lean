import Derived.Test.YtlefjidbpjkhlaaGreatK11
import Derived.Test.YtlefjidbpjkhlaaGreatK08
set_option maxRecDepth 100000
set_option maxHeartbeats 16000000
namespace Go.Proofs.YtlefjidbpjkhlaaGreat
variable {ah:Nat->Option (List Int)}
variable {K bl c cp j k m n p x:Nat}
variable {Z Zc:Nat->Prop}
variable {w w0:World}
variable {d:Pd}
variable {s:Js}
open Go.RowKit
def homeKeys (nb:Nat) (ah:Nat->Option (List Int)):List Nat:=(List.range nb).filter (fun x=>(ah x).isSome)
def homeCmds (nb:Nat) (ah:Nat->Option (List Int)):List Cmd:=(homeKeys nb ah).map fun x=>Cmd.wr x ((ah x).getD [])
theorem length_homeKeys(nb:Nat)(ah:Nat->Option (List Int)):(homeKeys nb ah).length<=nb:=Nat.le_trans (List.length_filter_le _ _) (by simp)
theorem mem_homeKeys{nb:Nat} :x∈homeKeys nb ah ↔ x<nb/\(ah x).isSome=true:=by simp[homeKeys]
theorem JqW.has_iff{room nb fr:Nat}{D:DataW (Nat×Nat)}{a:Nat->Option (Nat×Nat)}(h:JqW Z Zc w j c p room nb K fr bl m n D a d s)(x:Int):x∈(homeKeys nb s.ah).map Int.ofNat ↔ Maps.has D (.int .i64 x)=true:=by
 constructor
 ·intro hx
  obtain⟨y,hy,rfl⟩:=List.mem_map.1 hx
  obtain⟨h1,h2⟩:=mem_homeKeys.1 hy
  cases ha:a y with
  | none=>rw[h.non y ha]at h2;cases h2
  | some q=>exact (h.am.hit y q ha).1
 ·intro hx
  by_cases hq:∃y:Nat,(y:Int)=x/\a y≠none
  ·obtain⟨y,rfl,hy⟩:=hq
   cases ha:a y with
   | none=>exact absurd ha hy
   | some q=>
    obtain⟨zs,h1,_,_,h4,_⟩:=h.dat y q.1 q.2 ha
    exact List.mem_map.2 ⟨y,mem_homeKeys.2 ⟨h4,by rw[h1];rfl⟩,rfl⟩
  ·rw[h.am.miss x (fun y e=>Classical.byContradiction fun q=>hq ⟨y,e,q⟩)]at hx
   cases hx
theorem nodup_homeKeys(nb:Nat)(ah:Nat->Option (List Int)):((homeKeys nb ah).map Int.ofNat).Nodup:=by
 refine List.pairwise_map.2 (List.Pairwise.imp (fun {x y} q e=>q ?_) (List.Pairwise.filter _ List.nodup_range))
 exact Int.ofNat.inj e
theorem JqW.sorted{room nb fr:Nat}{D:DataW (Nat×Nat)}{a:Nat->Option (Nat×Nat)}(h:JqW Z Zc w j c p room nb K fr bl m n D a d s){ss:List Int}(hp:ss.Perm (intKeys D)):ss.mergeSort (fun x y=>decide (x<=y))=(homeKeys nb s.ah).map Int.ofNat/\ss.length=(homeKeys nb s.ah).length:=by
 have hc:CollectedI D (fun _=>false) ((homeKeys nb s.ah).map Int.ofNat):=⟨nodup_homeKeys _ _,fun x=>by rw[h.has_iff x];simp⟩
 have hq:=hc.perm h.mp law3 Tryz.underlying3 (fun _=>rfl)
 have hr:=hp.trans hq.symm
 refine⟨?_,by rw[hr.length_eq];simp⟩
 rw[mergeSort_of_perm_i hr]
 refine List.mergeSort_of_pairwise (List.pairwise_map.2 ?_)
 refine List.Pairwise.imp (fun {x y} q=>?_) (List.Pairwise.filter _ List.pairwise_lt_range)
 show decide (Int.ofNat x<=Int.ofNat y)=true
 simp only[decide_eq_true_eq]
 exact Int.ofNat_le.2 (Nat.le_of_lt q)
theorem zero22(w:World):(zeroValue 65).run Tryz.prog w=.ok (.slice none 0 0) w:=by kernel_rfl
theorem keyOf3{x:Int}(h:(Lit.int .i64 x).wf=true):keyOf Tryz.prog 3 (.int .i64 x)=some (Lit.int .i64 x):=by
 simp[keyOf,Tryz.underlying3,mapKey,h]
theorem JqW.look{room nb fr:Nat}{D:DataW (Nat×Nat)}{a:Nat->Option (Nat×Nat)}(h:JqW Z Zc w j c p room nb K fr bl m n D a d s){g:Nat}(hx:x<524288)(ha:a x=some (g,cp)):(Instr.lookup 149 (.map (some m)) (.int .i64 (x:Int)) false).run Tryz.prog w=.ok (.slice (some ⟨g,0,none⟩) 512 cp) w:=by
 obtain⟨v,ps,h1,h2⟩:=h.mp.lookup law3 Tryz.underlying149 (zero22 w) (zd:=.nil) (zp:=[]) rfl (keyOf3 (wf_small (x:=(x:Int)) (by omega) (by omega)))
 rw[(h.am.hit x (g,cp) ha).2]at h2
 rw[slElem_inv h2]at h1
 exact h1
theorem writeHome_any{room nb fr:Nat}(h:Jq Z w j c p room nb K fr bl d s)(hl:d.puts.length+nb<=1073741823) :
  Calls Tryz.prog 171 #[.pointer (some ⟨j,0,none⟩)] w (Did Z w j c p room nb K fr bl d (homeCmds nb s.ah) s):=by
 have hnb:=h.fits.2.2
 obtain⟨Zc,m,n,D,a,hc⟩:=h.cut
 have j6:=hc.jb.cell 6
 simp at j6
 have hsz:Maps.size D<=524288:=by
  have:=hc.am.cnt
  have:=cntA_le a nb
  omega
 have HK:=hid (keys_any (some m) w)
 have HS:=hid (sorted_any m n D slElem w hc.mp (by unfold maxLen;omega) (by omega))
 have HC:=hid hc
 have HL:=hid hl
 clear hc h hl
 go_enter Tryz.func171,Tryz.ntmps171
 go_wp2_with fail
 refine Calls.mono HK.out ?_
 rintro e w1 ⟨rfl,rfl⟩
 go_wp2_with fail
 refine Calls.mono HS.out ?_
 rintro e w1 ⟨v,ss,rfl,hperm,hrow,_,b1⟩
 obtain⟨hsr,hln⟩:=HC.out.sorted hperm
 rw[hsr]at hrow
 rw[hln]at hrow
 obtain⟨av,cv,rfl,_⟩:=owns_slice hrow
 have hkl:=length_homeKeys nb s.ah
 have HR:Hid (∀(i x:Nat),(homeKeys nb s.ah)[i]?=some x->∃gk,av=some ⟨gk,0,none⟩/\w.heap.size<=gk/\gk<w1.heap.size/\w1.cell? ⟨gk,i,none⟩=some (.int .i64 (x:Int))):=fun i x hx=>by
  have hi:i<(homeKeys nb s.ah).length:=(List.getElem?_eq_some_iff.1 hx).1
  rcases hrow.2 with ⟨_,q⟩ | ⟨gk,cap,cur,q1,q2,_⟩
  ·omega
  ·simp at q1
   have hlt:=(World.ownsRow.lt hrow gk (by rw[q1.1];rfl)).2
   refine⟨gk,q1.1,q2,hlt,?_⟩
   have hcell:=World.ownsRow.cellAt (by rw[q1.1]at hrow;exact hrow) i (by simp;omega)
   rw[hcell]
   simp[hx,encZ]
 have HJ1:=hid (HC.out.keep (w':=w1) (fun x _ hx=>b1.block x hx) b1.size)
 have B1:=hid b1
 generalize hN:(homeKeys nb s.ah).length=N at *
 clear hsr hln hperm hrow b1 HK HS HC j6
 go_wp2_with fail
 go_loopw [13] (fun i wr=>∃q:Nat,q<=N/\i=.int .i64 (q:Int)/\(d.runs ((homeCmds nb s.ah).take q)).1=0/\(∃Z' Zc',JqW Z' Zc' wr j c p room nb K fr bl m n D a (d.runs ((homeCmds nb s.ah).take q)).2 s/\Gr Z Z' w/\Gr (fun k=>Z k/\k<w.heap.size) Z' w1)/\But Z w wr/\But (fun k=>Z k/\k<w.heap.size) w1 wr) (fun i _=>N-(intOf i).toNat)
 case atStart=>exact⟨0,Nat.zero_le _,rfl,rfl,⟨_,_,HJ1.out,fun k _ q=>q.1,fun k _ q=>q⟩,But.of_below B1.out,But.refl _ _⟩
 case round=>
  clear HJ1
  obtain⟨q,hq,rfl,hz,⟨Z',Zc',hJr,hGr,hGr1⟩,hBt,hBt1⟩:=hrel
  have hlen:(homeCmds nb s.ah).length=N:=by simp[homeCmds,hN]
  by_cases hqn:q<N
  ·have hqn':(q:Int)<(N:Int):=by omega
   obtain⟨x,hx⟩:∃x,(homeKeys nb s.ah)[q]?=some x:=⟨_,List.getElem?_eq_getElem (by omega)⟩
   obtain⟨hx1,hx2⟩:=mem_homeKeys.1 (List.mem_of_getElem? hx)
   obtain⟨gk,hav,hgk,hgk1,hck⟩:=HR.out q x hx
   obtain⟨⟨g,cp⟩,ha⟩:∃r,a x=some r:=by
    cases ha:a x with
    | none=>rw[hJr.non x ha]at hx2;cases hx2
    | some r=>exact⟨r,rfl⟩
   obtain⟨zs,e1,e2,e3,e4,e5,e6⟩:=hJr.dat x g cp ha
   have hcmd:(homeCmds nb s.ah)[q]?=some (.wr x zs):=by simp[homeCmds,hx,e1]
   have htk:(homeCmds nb s.ah).take (q+1)=(homeCmds nb s.ah).take q++[.wr x zs]:=by
    rw[List.take_add_one,hcmd]
    rfl
   have e7:=d.runs_snoc hz (.wr x zs)
   rw[<- htk]at e7
   have hpl:=d.runs_puts ((homeCmds nb s.ah).take q)
   rw[List.length_take]at hpl
   have hl:=HL.out
   have HWd:=hid (Jq.writeOwn (hJr.keep (w':=wr.drew) (fun _ _ _=>rfl) (Nat.le_refl _)) (by omega) x e4 g cp zs (e2.keep rfl) e3 e5)
   rw[<- e7]at HWd
   have HLd:=hid ((hJr.keep (w':=wr.drew) (fun _ _ _=>rfl) (Nat.le_refl _)).look (by omega) ha)
   have ck:wr.cell? ⟨gk,q,none⟩=some (.int .i64 (x:Int)):=(hBt1.cell (p:=⟨gk,q,none⟩) hgk1 (fun r=>by have r2:gk<w.heap.size:=r.2;omega)).trans hck
   have k0:=hJr.jb.cell 0
   have k6:=hJr.jb.cell 6
   simp at k0 k6
   have hx5:x<524288:=by omega
   have HA:=hid ha
   have KK:=hid (And.intro hGr (And.intro hGr1 (And.intro hBt (And.intro hBt1 hJr.sub))))
   have hrest:=hid (List.take_append_drop (q+1) (homeCmds nb s.ah))
   subst hav
   clear HR hck hx hx2 hcmd htk e7 hpl hl e1 e2 e3 e4 e5 e6 ha hGr hGr1 hBt hBt1 hJr hz hx1
   go_wp2_with fail
   refine wp_region_noPanic ?_
   refine Gz (S:=fun w'=>w'.cell? ⟨j,0,none⟩=some (.pointer (some ⟨c,0,none⟩))/\w'.cell? ⟨j,6,none⟩=some (.map (some m))/\(Instr.lookup 149 (.map (some m)) (.int .i64 (x:Int)) false).run Tryz.prog w'=.ok (.slice (some ⟨g,0,none⟩) 512 cp) w') ⟨k0,k6,by exact HLd.out⟩ (fun hSS=>?_)
   refine tj 0 rfl hSS ?_
   simp only[Act.put,List.setIfInBounds_toArray]
   refine tj 1 rfl hSS ?_
   simp only[Act.put]
   refine tj 2 rfl hSS ?_
   simp only[Act.put]
   refine tj 3 rfl hSS ?_
   simp only[Act.put]
   refine tj 4 rfl hSS ?_
   simp only[Act.put]
   refine tj 5 rfl hSS ?_
   simp only[Act.put]
   refine tj 6 rfl hSS ?_
   simp only[Act.put]
   refine tj 7 rfl hSS ?_
   simp only[Act.put]
   refine tj 8 rfl hSS ?_
   simp only[Act.put]
   refine tj 9 rfl hSS ?_
   simp only[Act.put]
   refine tj 10 rfl hSS ?_
   simp only[Act.put]
   refine Ri 11 rfl (fun K9 hK9=>?_)
   go_simp
   go_at_call 178
   refine Calls.mono HWd.out ?_
   rintro e w2 ⟨rfl,⟨Z2,Zc2,hJ2,hG2⟩,b2⟩
   have FIN0:=hid (And.intro hJ2 (And.intro hG2 b2))
   have q0:=hJ2.jb.cell 0
   have q6:=hJ2.jb.cell 6
   simp at q0 q6
   have qL:=hid (hJ2.look hx5 HA.out)
   clear hJ2 hG2 b2
   dsimp only
   refine hK9.out _ _ ⟨q0,q6,qL.out⟩ (fun hSS3=>?_)
   clear hK9 K9 hSS
   refine tj 12 rfl hSS3 ?_
   dsimp [Act.put]
   refine Dn (NoPanic.normal ?_)
   obtain⟨hJ2,hG2,b2⟩:=FIN0.out
   have hs:=KK.out.2.2.1.size
   have hs1:=KK.out.2.2.2.1.size
   have b2':But Z' wr w2:=(show But Zc' wr w2 from ⟨b2.os,b2.tape,b2.output,b2.size,b2.block⟩).mono (fun k _ r=>KK.out.2.2.2.2 k r)
   have g2':Gr Z' Z2 wr:=fun k hk r=>hG2 k hk r
   have FIN:=hid (And.intro hJ2 (And.intro (KK.out.1.trans g2' hs) (And.intro (KK.out.2.1.trans g2' hs1) (And.intro (KK.out.2.2.1.comp b2' (fun k hk r=>KK.out.1 k hk r)) (KK.out.2.2.2.1.comp b2' (fun k hk r=>KK.out.2.1 k hk r))))))
   clear hJ2 hG2 b2 b2' g2' hs hs1 FIN0 KK q0 q6 qL hSS3 k0 k6 ck HWd HLd HA
   generalize hcd:d.runs ((homeCmds nb s.ah).take (q+1))=rr at *
   obtain⟨code,d'⟩:=rr
   by_cases hc:code=0
   ·subst hc
    go_wp2_with fail
    go_roundw
    case rel=>exact⟨q+1,by omega,by go_num,by rw[hcd],⟨Z2,Zc2,by rw[hcd];exact FIN.out.1,FIN.out.2.1,FIN.out.2.2.1⟩,FIN.out.2.2.2.1,FIN.out.2.2.2.2⟩
    case measure=>simp[intOf];omega
   ·have hst:d.runs (homeCmds nb s.ah)=(code,d'):=by
     rw[<- hrest.out,Pd.runs_stop (by rw[hcd];exact hc),hcd]
    go_wp2
    go_ret
    unfold Did
    rw[hst]
    exact⟨rfl,⟨Z2,s,⟨Zc2,m,n,D,a,FIN.out.1⟩,fun _=>rfl,FIN.out.2.1⟩,FIN.out.2.2.2.1⟩
  ·have hqn':¬(q:Int)<(N:Int):=by omega
   have hqe:(homeCmds nb s.ah).take q=homeCmds nb s.ah:=List.take_of_length_le (by omega)
   rw[hqe]at hz hJr
   have FIN:Hid (Did Z w j c p room nb K fr bl d (homeCmds nb s.ah) s (.returned (.int .i64 0)) wr):=⟨by rw[hz],⟨Z',s,⟨Zc',m,n,D,a,hJr⟩,fun _=>rfl,hGr⟩,hBt⟩
   clear hJr hGr hGr1 hBt hBt1 hz hqe HR
   go_wp2
   go_ret
   exact FIN.out
open Go.RowKit
def settleCmds (nb fr bl:Nat) (s:Js):List Cmd:=[.fl]++homeCmds nb s.ah++[.fl]++goCmds fr bl s++[.fl]
theorem length_goCmds(fr bl:Nat)(s:Js):(goCmds fr bl s).length<=bl+4:=by
 unfold goCmds
 split
 ·simp
 ·simp only[List.length_append,List.length_cons,List.length_nil,length_wipes];omega
theorem length_homeCmds(nb:Nat)(ah:Nat->Option (List Int)):(homeCmds nb ah).length<=nb:=by
 unfold homeCmds
 rw[List.length_map]
 exact length_homeKeys nb ah
theorem settle_turn{room nb fr:Nat}(h0:Jq Z w0 j c p room nb K fr bl d s)(hb:Below w.heap.size w w0)(l0:k<w0.heap.size)(k0:¬Z k)(hn:Jn nb fr bl s)(hl:d.puts.length+nb+bl+8<=1073741823) :
  Turn k (Did Z w j c p room nb K fr bl d (settleCmds nb fr bl s) (goS s)) [((121:Nat),Value.pointer (some ⟨c,0,none⟩)),(171,.pointer (some ⟨j,0,none⟩)),(121,.pointer (some ⟨c,0,none⟩)),(172,.pointer (some ⟨j,0,none⟩)),(121,.pointer (some ⟨c,0,none⟩))] w0:=by
 have hp:=fun cs=>d.runs_puts cs
 have lh:=length_homeCmds nb s.ah
 have lg:=length_goCmds fr bl s
 have z0:(d.runs []).1=0:=rfl
 have g0:=Gr.refl Z w
 have b0:But Z w w0:=But.of_below hb
 unfold settleCmds
 refine Turn.jstep (done:=[]) (cs:=[.fl]) (rest:=homeCmds nb s.ah++[.fl]++goCmds fr bl s++[.fl]) (by simp) z0 g0 b0 k0 l0 (Did.of_one (h0.flush (by omega))) (fun Z1 w1 z1 h1 g1 b1 k1 l1=>?_)
 have p1:=hp ([]++[.fl])
 simp at p1
 refine Turn.jstep (done:=[]++[.fl]) (cs:=homeCmds nb s.ah) (rest:=[.fl]++goCmds fr bl s++[.fl]) (by simp) z1 g1 b1 k1 l1 (writeHome_any h1 (by simp;omega)) (fun Z2 w2 z2 h2 g2 b2 k2 l2=>?_)
 have p2:=hp ([]++[.fl]++homeCmds nb s.ah)
 simp at p2
 refine Turn.jstep (done:=[]++[.fl]++homeCmds nb s.ah) (cs:=[.fl]) (rest:=goCmds fr bl s++[.fl]) (by simp) z2 g2 b2 k2 l2 (Did.of_one (h2.flush (by simp;omega))) (fun Z3 w3 z3 h3 g3 b3 k3 l3=>?_)
 have p3:=hp ([]++[.fl]++homeCmds nb s.ah++[.fl])
 simp at p3
 refine Turn.jstep (done:=[]++[.fl]++homeCmds nb s.ah++[.fl]) (cs:=goCmds fr bl s) (rest:=[.fl]) (by simp) z3 g3 b3 k3 l3 (letLogGo_any h3 hn (by simp;omega)) (fun Z4 w4 z4 h4 g4 b4 k4 l4=>?_)
 have p4:=hp ([]++[.fl]++homeCmds nb s.ah++[.fl]++goCmds fr bl s)
 simp at p4
 refine Turn.jstep (done:=[]++[.fl]++homeCmds nb s.ah++[.fl]++goCmds fr bl s) (cs:=[.fl]) (rest:=[]) (by simp) z4 g4 b4 k4 l4 (Did.of_one (h4.flush (by simp;omega))) (fun Z5 w5 z5 h5 g5 b5 k5 l5=>?_)
 exact Turn.jend (by simpa using z5) (by simpa using h5) g5 b5
theorem settle_any{room nb fr:Nat}(h:Jq Z w j c p room nb K fr bl d s)(hn:Jn nb fr bl s)(hl:d.puts.length+nb+bl+8<=1073741823) :
  Calls Tryz.prog 127 #[.pointer (some ⟨j,0,none⟩)] w (Did Z w j c p room nb K fr bl d (settleCmds nb fr bl s) (goS s)):=by
 obtain⟨mv,hJ,hZj⟩:=h.cells
 have hjl:=hJ.lt
 have j0:=hJ.cell 0
 simp at j0
 obtain⟨w1,hw1⟩:∃w1,w1=(w.alloc (.cells #[.func (.func 121) #[.pointer (some ⟨c,0,none⟩)] #[],.func (.func 171) #[.pointer (some ⟨j,0,none⟩)] #[],.func (.func 121) #[.pointer (some ⟨c,0,none⟩)] #[],.func (.func 172) #[.pointer (some ⟨j,0,none⟩)] #[],.func (.func 121) #[.pointer (some ⟨c,0,none⟩)] #[]] 42)).drew:=⟨_,rfl⟩
 obtain⟨b1,z1,F1⟩:=steps_ready w _ [((121:Nat),Value.pointer (some ⟨c,0,none⟩)),(171,.pointer (some ⟨j,0,none⟩)),(121,.pointer (some ⟨c,0,none⟩)),(172,.pointer (some ⟨j,0,none⟩)),(121,.pointer (some ⟨c,0,none⟩))] (fun i f hf=>by
   rcases i with _ | _ | _ | _ | _ | i
   ·cases hf;rfl
   ·cases hf;rfl
   ·cases hf;rfl
   ·cases hf;rfl
   ·cases hf;rfl
   ·simp at hf) hw1
 have HT:=settle_turn (w:=w) (k:=w.heap.size) (h.cut.below b1) b1 (by omega) (fun q=>by have:=q.2;omega) hn hl
 have HI:=hid (inTurn_any (k:=w.heap.size) _ (by simp) (fun i g hg=>by
   have:=List.mem_of_getElem? hg
   simp at this
   rcases this with rfl | rfl | rfl | rfl | rfl <;> simp) w1 F1 HT)
 clear HT
 generalize settleCmds nb fr bl s=cs at HI ⊢
 generalize goS s=sE at HI ⊢
 clear hJ h hn hl F1 z1 b1
 have HW1:=hid hw1
 clear hw1
 go_enter Tryz.func127,Tryz.ntmps127
 go_wp2_with fail
 refine wp_region_noPanic ?_
 refine Gz (S:=fun w'=>w'.cell? ⟨j,0,none⟩=some (.pointer (some ⟨c,0,none⟩))) j0 (fun hSS=>?_)
 refine tj 0 rfl hSS ?_
 simp only[Act.put,List.setIfInBounds_toArray]
 refine tj 1 rfl hSS ?_
 simp only[Act.put]
 refine tj 2 rfl hSS ?_
 simp only[Act.put]
 refine tj 3 rfl hSS ?_
 simp only[Act.put]
 refine tj 4 rfl hSS ?_
 simp only[Act.put]
 refine tj 5 rfl hSS ?_
 simp only[Act.put]
 refine tj 6 rfl hSS ?_
 simp only[Act.put]
 refine tj 7 rfl hSS ?_
 simp only[Act.put]
 refine tj 8 rfl hSS ?_
 simp only[Act.put]
 refine tj 9 rfl hSS ?_
 simp only[Act.put]
 refine tj 10 rfl hSS ?_
 simp only[Act.put]
 refine tj 11 rfl hSS ?_
 simp only[Act.put]
 refine tj 12 rfl hSS ?_
 simp only[Act.put]
 refine tj 13 rfl hSS ?_
 simp only[Act.put]
 refine tj 14 rfl hSS ?_
 simp only[Act.put]
 refine tj 15 rfl hSS ?_
 simp only[Act.put]
 refine tj 16 rfl hSS ?_
 simp only[Act.put]
 refine tj 17 rfl hSS ?_
 simp only[Act.put]
 refine tj 18 rfl hSS ?_
 simp only[Act.put]
 refine Ri 19 rfl (fun K9 hK9=>?_)
 go_simp
 refine hK9.out _ _ ((World.cell?_alloc_past _ _ _ hjl).trans j0) (fun hSS2=>?_)
 clear hK9 K9 hSS
 refine Ri 20 rfl (fun K9 hK9=>?_)
 go_simp
 go_at_call 119
 rw[<- HW1.out]
 refine Calls.mono HI.out ?_
 intro e w2 q
 have FIN:=hid q
 have q0:=q.c0
 obtain⟨he,_⟩:=q
 subst he
 dsimp only
 refine hK9.out _ _ q0 (fun hSS3=>?_)
 clear hK9 K9 hSS2
 refine tj 21 rfl hSS3 ?_
 dsimp [Act.put]
 refine Dn (NoPanic.normal ?_)
 clear j0 HI HW1 q0 hSS3
 go_wp2
 go_ret
 exact FIN.out.from (fun k _ q=>q.1) (But.refl _ _)
open Go.RowKit
def formatCmds (f b:Nat):List Cmd:=wipes f b f 1++[.fl]++wipes f b (f+1) (b-1)++[.fl]++[.wr f (headZ f b (noS.life+1) noS.seq)]++[.fl]
theorem Jq.toCq{room nb fr:Nat}(h:Jq Z w j c p room nb K fr bl d s):Cq Z w c p room nb K d:=by
 obtain⟨Zc,m,n,D,a,h⟩:=h
 exact h.cq.mono h.sub (Nat.le_refl _)
theorem format_turn{room nb fr:Nat}(h0:Jq Z w0 j c p room nb K fr bl d noS)(hb:But Z w w0)(hg:Gr Z Z w)(l0:k<w0.heap.size)(k0:¬Z k)(hn:Jn nb fr bl noS)(hl:d.puts.length+nb+bl+8<=1073741823) :
  Turn k (Did Z w j c p room nb K fr bl d (formatCmds fr bl) (beginS noS)) [((120:Nat),Value.pointer (some ⟨j,0,none⟩)),(121,.pointer (some ⟨c,0,none⟩)),(122,.pointer (some ⟨j,0,none⟩)),(121,.pointer (some ⟨c,0,none⟩)),(123,.pointer (some ⟨j,0,none⟩)),(121,.pointer (some ⟨c,0,none⟩))] w0:=by
 have hp:=fun cs=>d.runs_puts cs
 have z0:(d.runs []).1=0:=rfl
 have g0:=hg
 have b0:=hb
 unfold formatCmds
 refine Turn.jstep (done:=[]) (cs:=wipes fr bl fr 1) (rest:=[.fl]++wipes fr bl (fr+1) (bl-1)++[.fl]++[.wr fr (headZ fr bl (noS.life+1) noS.seq)]++[.fl]) (by simp) z0 g0 b0 k0 l0 (Did.of_list (wipeHead_any h0 hn (by show d.puts.length<=_;omega))) (fun Z1 w1 z1 h1 g1 b1 k1 l1=>?_)
 have p1:=hp ([]++wipes fr bl fr 1)
 simp[length_wipes]at p1
 refine Turn.jstep (done:=[]++wipes fr bl fr 1) (cs:=[.fl]) (rest:=wipes fr bl (fr+1) (bl-1)++[.fl]++[.wr fr (headZ fr bl (noS.life+1) noS.seq)]++[.fl]) (by simp) z1 g1 b1 k1 l1 (Did.of_one (h1.flush (by simp;omega))) (fun Z2 w2 z2 h2 g2 b2 k2 l2=>?_)
 have p2:=hp ([]++wipes fr bl fr 1++[.fl])
 simp[length_wipes]at p2
 refine Turn.jstep (done:=[]++wipes fr bl fr 1++[.fl]) (cs:=wipes fr bl (fr+1) (bl-1)) (rest:=[.fl]++[.wr fr (headZ fr bl (noS.life+1) noS.seq)]++[.fl]) (by simp) z2 g2 b2 k2 l2 (Did.of_list (wipeLog_any h2 hn (by simp;omega))) (fun Z3 w3 z3 h3 g3 b3 k3 l3=>?_)
 have p3:=hp ([]++wipes fr bl fr 1++[.fl]++wipes fr bl (fr+1) (bl-1))
 simp[length_wipes]at p3
 refine Turn.jstep (done:=[]++wipes fr bl fr 1++[.fl]++wipes fr bl (fr+1) (bl-1)) (cs:=[.fl]) (rest:=[.wr fr (headZ fr bl (noS.life+1) noS.seq)]++[.fl]) (by simp) z3 g3 b3 k3 l3 (Did.of_one (h3.flush (by simp;omega))) (fun Z4 w4 z4 h4 g4 b4 k4 l4=>?_)
 have p4:=hp ([]++wipes fr bl fr 1++[.fl]++wipes fr bl (fr+1) (bl-1)++[.fl])
 simp[length_wipes]at p4
 refine Turn.jstep (done:=[]++wipes fr bl fr 1++[.fl]++wipes fr bl (fr+1) (bl-1)++[.fl]) (cs:=[.wr fr (headZ fr bl (noS.life+1) noS.seq)]) (rest:=[.fl]) (by simp) z4 g4 b4 k4 l4 (Did.of_one (beginLife_any h4 hn (by simp[noS]) (by simp;omega))) (fun Z5 w5 z5 h5 g5 b5 k5 l5=>?_)
 have p5:=hp ([]++wipes fr bl fr 1++[.fl]++wipes fr bl (fr+1) (bl-1)++[.fl]++[.wr fr (headZ fr bl (noS.life+1) noS.seq)])
 simp[length_wipes]at p5
 refine Turn.jstep (done:=[]++wipes fr bl fr 1++[.fl]++wipes fr bl (fr+1) (bl-1)++[.fl]++[.wr fr (headZ fr bl (noS.life+1) noS.seq)]) (cs:=[.fl]) (rest:=[]) (by simp) z5 g5 b5 k5 l5 (Did.of_one (h5.flush (by simp;omega))) (fun Z6 w6 z6 h6 g6 b6 k6 l6=>?_)
 exact Turn.jend (by simpa using z6) (by simpa using h6) g6 b6
def FormatP (Z:Nat->Prop) (w:World) (c p room nb K:Nat) (d:Pd) (fr bl:Int) (e:Ending) (w':World):Prop :=
 ∃code d',e=.returned (.int .i64 code)/\(∃Z',Cq Z' w' c p room nb K d'/\Gr Z Z' w)/\But Z w w'/\((layC d nb fr bl≠0/\code=layC d nb fr bl/\d'=d)\/(layC d nb fr bl=0/\∃f b:Nat,fr=f/\bl=b/\16<=b/\f+b<=nb/\d.runs (formatCmds f b)=(code,d')))
theorem Format_any{room nb:Nat}(h:Cq Z w c p room nb K d)(fr bl:Int)(hl:d.puts.length+nb+nb+8<=1073741823) :
  Calls Tryz.prog 69 #[.pointer (some ⟨c,0,none⟩),.int .i64 fr,.int .i64 bl] w (FormatP Z w c p room nb K d fr bl):=by
 have H:=hid (jlay_any h fr bl)
 have HC:=hid h
 have hnb:=h.fits.2.2
 clear h
 go_enter Tryz.func69,Tryz.ntmps69
 go_wp2_with fail
 refine Calls.mono H.out ?_
 rintro e w2 ⟨jv,rfl,b2,hq⟩
 rcases hq with ⟨hne,rfl⟩ | ⟨hz,j,f,b,rfl,rfl,rfl,q1,q2,q3,Z2,hJ,hG⟩
 ·have FIN:Hid (FormatP Z w c p room nb K d fr bl (.returned (.int .i64 (layC d nb fr bl))) w2):=⟨_,d,rfl,⟨Z,HC.out.below b2,Gr.refl _ _⟩,But.of_below b2,.inl ⟨hne,rfl,rfl⟩⟩
  clear b2 H HC hnb hl
  generalize layC d nb fr bl=code at *
  go_wp2
  go_ret
  exact FIN.out
 ·obtain⟨mv,hJb,hZj⟩:=hJ.cells
  have hjl:=hJb.lt
  have j0:=hJb.cell 0
  simp at j0
  obtain⟨w3,hw1⟩:∃w3,w3=(w2.alloc (.cells #[.func (.func 120) #[.pointer (some ⟨j,0,none⟩)] #[],.func (.func 121) #[.pointer (some ⟨c,0,none⟩)] #[],.func (.func 122) #[.pointer (some ⟨j,0,none⟩)] #[],.func (.func 121) #[.pointer (some ⟨c,0,none⟩)] #[],.func (.func 123) #[.pointer (some ⟨j,0,none⟩)] #[],.func (.func 121) #[.pointer (some ⟨c,0,none⟩)] #[]] 42)).drew:=⟨_,rfl⟩
  obtain⟨b1,z1,F1⟩:=steps_ready w2 _ [((120:Nat),Value.pointer (some ⟨j,0,none⟩)),(121,.pointer (some ⟨c,0,none⟩)),(122,.pointer (some ⟨j,0,none⟩)),(121,.pointer (some ⟨c,0,none⟩)),(123,.pointer (some ⟨j,0,none⟩)),(121,.pointer (some ⟨c,0,none⟩))] (fun i f hf=>by
    rcases i with _ | _ | _ | _ | _ | _ | i
    ·cases hf;rfl
    ·cases hf;rfl
    ·cases hf;rfl
    ·cases hf;rfl
    ·cases hf;rfl
    ·cases hf;rfl
    ·simp at hf) hw1
  have hn:Jn nb f b noS:=⟨q1,q2,hnb,Nat.zero_le _,Nat.zero_le _,by simp[noS];omega⟩
  have HT:=format_turn (w:=w2) (k:=w2.heap.size) (hJ.cut.below b1) (But.of_below b1) (Gr.refl _ _) (by omega) (fun q=>by have:=q.2;omega) hn (by omega)
  have HI:=hid (inTurn_any (k:=w2.heap.size) _ (by simp) (fun i g hg=>by
   have:=List.mem_of_getElem? hg
   simp at this
   rcases this with rfl | rfl | rfl | rfl | rfl | rfl <;> simp) w3 F1 HT)
  have HF:Hid (∀e w4,Did (fun k=>Z2 k/\k<w2.heap.size) w2 j c p room nb K f b d (formatCmds f b) (beginS noS) e w4->FormatP Z w c p room nb K d (f:Int) (b:Int) e w4):=fun e w4 q=>by
   obtain⟨r1,⟨Z',s',r2,r3,r4⟩,r5⟩:=q
   have hs:=b2.size
   exact⟨_,_,r1,⟨Z',r2.toCq,fun k hk r=>hG k hk (r4 k (by omega) r).1⟩,(But.of_below b2).comp r5 (fun k hk r=>hG k hk r.1),.inr ⟨hz,f,b,rfl,rfl,q1,q2,rfl⟩⟩
  clear HT hJ hJb hG b2 H HC hnb hl F1 z1 b1 hn q1 q2 q3 hZj
  rw[hz]
  have HW1:=hid hw1
  clear hw1 hz
  generalize formatCmds f b=cs at HI HF
  generalize beginS noS=sE at HI HF
  go_wp2_with fail
  refine wp_region_noPanic ?_
  refine Gz (S:=fun w'=>w'.cell? ⟨j,0,none⟩=some (.pointer (some ⟨c,0,none⟩))) j0 (fun hSS=>?_)
  refine tj 0 rfl hSS ?_
  simp only[Act.put,List.setIfInBounds_toArray]
  refine tj 1 rfl hSS ?_
  simp only[Act.put]
  refine tj 2 rfl hSS ?_
  simp only[Act.put]
  refine tj 3 rfl hSS ?_
  simp only[Act.put]
  refine tj 4 rfl hSS ?_
  simp only[Act.put]
  refine tj 5 rfl hSS ?_
  simp only[Act.put]
  refine tj 6 rfl hSS ?_
  simp only[Act.put]
  refine tj 7 rfl hSS ?_
  simp only[Act.put]
  refine tj 8 rfl hSS ?_
  simp only[Act.put]
  refine tj 9 rfl hSS ?_
  simp only[Act.put]
  refine tj 10 rfl hSS ?_
  simp only[Act.put]
  refine tj 11 rfl hSS ?_
  simp only[Act.put]
  refine tj 12 rfl hSS ?_
  simp only[Act.put]
  refine tj 13 rfl hSS ?_
  simp only[Act.put]
  refine tj 14 rfl hSS ?_
  simp only[Act.put]
  refine tj 15 rfl hSS ?_
  simp only[Act.put]
  refine tj 16 rfl hSS ?_
  simp only[Act.put]
  refine tj 17 rfl hSS ?_
  simp only[Act.put]
  refine tj 18 rfl hSS ?_
  simp only[Act.put]
  refine tj 19 rfl hSS ?_
  simp only[Act.put]
  refine tj 20 rfl hSS ?_
  simp only[Act.put]
  refine Ri 21 rfl (fun K9 hK9=>?_)
  go_simp
  refine hK9.out _ _ ((World.cell?_alloc_past _ _ _ hjl).trans j0) (fun hSS2=>?_)
  clear hK9 K9 hSS
  refine Ri 22 rfl (fun K9 hK9=>?_)
  go_simp
  go_at_call 119
  rw[<- HW1.out]
  refine Calls.mono HI.out ?_
  intro e w4 q
  have FIN:=hid q
  have q0:=q.c0
  obtain⟨he,_⟩:=q
  subst he
  dsimp only
  refine hK9.out _ _ q0 (fun hSS3=>?_)
  clear hK9 K9 hSS2
  refine tj 23 rfl hSS3 ?_
  dsimp [Act.put]
  refine Dn (NoPanic.normal ?_)
  have FIN2:=hid (HF.out _ _ FIN.out)
  clear j0 HI HW1 q0 hSS3 HF FIN
  go_wp2
  go_ret
  exact FIN2.out
open Go.RowKit
def uerr (E:Int):Value:=.tuple #[.int .i64 0,.int .i64 0,.slice none 0 0,.int .i64 E]
theorem Unstamp_head (b off cap:Nat) (zs:List Int) (w:World) (hz:zs.length=512) (hzb:Pl.isB zs) (hcap:512<=cap)
  (hc:∀t,t<512->w.cell? ⟨b,off+t,none⟩=some (.int .u8 (zs.getD t 0)))
  (h:zs.getD 0 0=0\/497<Pl.num ((zs.drop 1).take 2)\/1099511627776<Pl.num ((zs.drop 3).take 8)) :
  Calls Tryz.prog 195 #[.slice (some ⟨b,off,none⟩) 512 cap] w fun e w'=>e=.returned (uerr 16)/\w'=w:=by
 have g1:=getNumber_any b (off+1) 2 (cap-1) ((zs.drop 1).take 2) w (by decide) (by simp;omega) (Pl.isB_take (Pl.isB_drop hzb _) _) (part_cells hc 1 2 (by decide))
 have g3:=getNumber_any b (off+3) 8 (cap-3) ((zs.drop 3).take 8) w (by decide) (by simp;omega) (Pl.isB_take (Pl.isB_drop hzb _) _) (part_cells hc 3 8 (by decide))
 have c0:w.cell? ⟨b,off,none⟩=some (.int .u8 (zs.getD 0 0)):=hc 0 (by decide)
 have k1:=Pl.isB_getD hzb 0
 rw[<- List.getD_eq_getElem?_getD]at k1
 have l0:=Pl.num_nonneg (Pl.isB_take (Pl.isB_drop hzb 1) 2)
 have l1:=Pl.num_lt (Pl.isB_take (Pl.isB_drop hzb 1) 2)
 rw[show ((zs.drop 1).take 2).length=2 from by simp;omega]at l1
 have s0:=Pl.num_nonneg (Pl.isB_take (Pl.isB_drop hzb 3) 8)
 have l2:Pl.num ((zs.drop 1).take 2)<65536:=by omega
 generalize Pl.num ((zs.drop 1).take 2)=L at *
 generalize Pl.num ((zs.drop 3).take 8)=S at *
 generalize zs.getD 0 0=K at *
 obtain⟨k2,k3⟩:=k1
 have G1:=hid g1
 have G3:=hid g3
 clear g1 g3 hc hzb hz l1
 have fin:∀(Q:Prop),Q->Q:=fun _ h=>h
 rcases (show K=0\/(1<=K/\497<L)\/(1<=K/\L<=497/\1099511627776<S) from by omega) with h1 | ⟨h1,h2⟩ | ⟨h1,h2,h3⟩
 ·subst h1
  clear h
  go_enter Tryz.func195,Tryz.ntmps195
  go_wp2_with fail
  refine Calls.mono G1.out ?_
  rintro e w1 ⟨rfl,rfl⟩
  go_wp2_with fail
  refine Calls.mono G3.out ?_
  rintro e w1 ⟨rfl,rfl⟩
  go_wp2_with fail
  exact bodyPost_ret (v:=uerr 16) (by simp[uerr,results,Tryz.results195,go_sem]) rfl ⟨rfl,rfl⟩
 ·have hK3:(K == 0)=false:=by simp;omega
  clear h
  go_enter Tryz.func195,Tryz.ntmps195
  go_wp2_with fail
  refine Calls.mono G1.out ?_
  rintro e w1 ⟨rfl,rfl⟩
  go_wp2_with fail
  refine Calls.mono G3.out ?_
  rintro e w1 ⟨rfl,rfl⟩
  go_wp2_with fail
  exact bodyPost_ret (v:=uerr 16) (by simp[uerr,results,Tryz.results195,go_sem]) rfl ⟨rfl,rfl⟩
 ·have hK3:(K == 0)=false:=by simp;omega
  clear h
  go_enter Tryz.func195,Tryz.ntmps195
  go_wp2_with fail
  refine Calls.mono G1.out ?_
  rintro e w1 ⟨rfl,rfl⟩
  go_wp2_with fail
  refine Calls.mono G3.out ?_
  rintro e w1 ⟨rfl,rfl⟩
  go_wp2_with fail
  exact bodyPost_ret (v:=uerr 16) (by simp[uerr,results,Tryz.results195,go_sem]) rfl ⟨rfl,rfl⟩
theorem Unstamp_rest (b off cap:Nat) (zs:List Int) (K S:Int) (L:Nat) (w:World) (hz:zs.length=512) (hzb:Pl.isB zs) (hb:b<w.heap.size) (hcap:512<=cap)
  (hc:∀t,t<512->w.cell? ⟨b,off+t,none⟩=some (.int .u8 (zs.getD t 0)))
  (hK:zs.getD 0 0=K) (hK1:1<=K) (hL:Pl.num ((zs.drop 1).take 2)=(L:Int)) (hL1:L<=497) (hS:Pl.num ((zs.drop 3).take 8)=S) (hS1:S<=1099511627776)
  (hbad:zeroB (zs.drop (15+L))=false\/Pl.num ((zs.drop 11).take 4)≠crc (splice zs 11 [0,0,0,0])) :
  Calls Tryz.prog 195 #[.slice (some ⟨b,off,none⟩) 512 cap] w fun e w'=>e=.returned (uerr (if zeroB (zs.drop (15+L))=false then 16 else 17))/\Below w.heap.size w w':=by
 have hS0:0<=S:=by rw[<- hS];exact Pl.num_nonneg (Pl.isB_take (Pl.isB_drop hzb _) _)
 have hK2:K<256:=by rw[<- hK,List.getD_eq_getElem?_getD];exact (Pl.isB_getD hzb 0).2
 have c0:w.cell? ⟨b,off,none⟩=some (.int .u8 K):=by rw[<- hK];exact hc 0 (by decide)
 have g1:=getNumber_any b (off+1) 2 (cap-1) ((zs.drop 1).take 2) w (by decide) (by simp;omega) (Pl.isB_take (Pl.isB_drop hzb _) _) (part_cells hc 1 2 (by decide))
 have g3:=getNumber_any b (off+3) 8 (cap-3) ((zs.drop 3).take 8) w (by decide) (by simp;omega) (Pl.isB_take (Pl.isB_drop hzb _) _) (part_cells hc 3 8 (by decide))
 have g11:=getNumber_any b (off+11) 4 (cap-11) ((zs.drop 11).take 4) w (by decide) (by simp;omega) (Pl.isB_take (Pl.isB_drop hzb _) _) (part_cells hc 11 4 (by decide))
 rw[hL]at g1
 rw[hS]at g3
 have hst:=stampSum_any b off cap zs w hz hzb hb hcap hc
 obtain⟨q1,q2⟩:=crc_bd (isB_splice hzb isB_four 11)
 have m0:=Pl.num_nonneg (Pl.isB_take (Pl.isB_drop hzb 11) 4)
 generalize crc (splice zs 11 [0,0,0,0])=C at *
 generalize Pl.num ((zs.drop 11).take 4)=M at *
 have G1:=hid g1
 have G3:=hid g3
 have G11:=hid g11
 have HST:=hid hst
 have HA1:cap=15+L->Calls Tryz.prog 223 #[.slice (some ⟨b,off,none⟩) (512-(15+L)) 0] w fun e w'=>e=.returned (.bool (zeroB (zs.drop (15+L))))/\w'=w:=fun h=>by
  have hL2:L=497:=by omega
  subst hL2
  exact allZero_any w.heap.size _ 0 0 _ w (by decide) ⟨by simp;omega,Pl.isB_drop hzb _,.inl rfl⟩
 have HA2:Calls Tryz.prog 223 #[.slice (some ⟨b,off+(15+L),none⟩) (512-(15+L)) (cap-(15+L))] w fun e w'=>e=.returned (.bool (zeroB (zs.drop (15+L))))/\w'=w :=
  allZero_any w.heap.size _ _ _ _ w (by omega) ⟨by simp;omega,Pl.isB_drop hzb _,.inr ⟨b,off+(15+L),rfl,hb,fun t ht=>by rw[show off+(15+L)+t=off+(15+L+t) by omega,hc _ (by omega)];simp⟩⟩
 have A1:=hid HA1
 have A2:=hid HA2
 generalize zeroB (zs.drop (15+L))=Zb at *
 clear HA1 HA2
 have hK3:(K == 0)=false:=by simp;omega
 have e64:IntKind.u64.wrap C=C:=by rw[IntKind.wrap_u64];omega
 clear g1 g3 g11 hst hc hL hS hK
 cases Zb with
 | false=>
  rw[if_pos rfl]
  go_enter Tryz.func195,Tryz.ntmps195
  go_wp2_with fail
  refine Calls.mono G1.out ?_
  rintro e w1 ⟨rfl,rfl⟩
  go_wp2_with fail
  refine Calls.mono G3.out ?_
  rintro e w1 ⟨rfl,rfl⟩
  go_wp2_with fail
  ·have hcl:cap=15+L:=by assumption
   subst hcl
   refine Calls.mono (A1.out rfl) ?_
   rintro e w1 ⟨rfl,rfl⟩
   go_wp2_with fail
   exact bodyPost_ret (v:=uerr 16) (by simp[uerr,results,Tryz.results195,go_sem]) rfl ⟨rfl,Below.refl _ _⟩
  ·refine Calls.mono A2.out ?_
   rintro e w1 ⟨rfl,rfl⟩
   go_wp2_with fail
   exact bodyPost_ret (v:=uerr 16) (by simp[uerr,results,Tryz.results195,go_sem]) rfl ⟨rfl,Below.refl _ _⟩
 | true=>
  rw[if_neg (by decide)]
  have hne:(M != C)=true:=by rcases hbad with h | h;cases h;simpa using h
  clear hbad
  go_enter Tryz.func195,Tryz.ntmps195
  go_wp2_with fail
  refine Calls.mono G1.out ?_
  rintro e w1 ⟨rfl,rfl⟩
  go_wp2_with fail
  refine Calls.mono G3.out ?_
  rintro e w1 ⟨rfl,rfl⟩
  go_wp2_with fail
  ·have hcl:cap=15+L:=by assumption
   subst hcl
   refine Calls.mono (A1.out rfl) ?_
   rintro e w1 ⟨rfl,rfl⟩
   go_wp2_with fail
   refine Calls.mono G11.out ?_
   rintro e w1 ⟨rfl,rfl⟩
   go_wp2_with fail
   refine Calls.mono HST.out ?_
   rintro e w2 ⟨rfl,hb2⟩
   go_wp2_with fail
   exact bodyPost_ret (v:=uerr 17) (by simp[uerr,results,Tryz.results195,go_sem]) rfl ⟨rfl,hb2⟩
  ·refine Calls.mono A2.out ?_
   rintro e w1 ⟨rfl,rfl⟩
   go_wp2_with fail
   refine Calls.mono G11.out ?_
   rintro e w1 ⟨rfl,rfl⟩
   go_wp2_with fail
   refine Calls.mono HST.out ?_
   rintro e w2 ⟨rfl,hb2⟩
   go_wp2_with fail
   exact bodyPost_ret (v:=uerr 17) (by simp[uerr,results,Tryz.results195,go_sem]) rfl ⟨rfl,hb2⟩
end Go.Proofs.YtlefjidbpjkhlaaGreat
