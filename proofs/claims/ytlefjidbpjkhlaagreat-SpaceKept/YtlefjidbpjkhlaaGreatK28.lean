import Derived.Test.YtlefjidbpjkhlaaGreatK21
import Derived.Test.YtlefjidbpjkhlaaGreatK27
import Derived.Laws.MakeOwn
import Derived.Maps.OwnSet
import Derived.Test.YtlefjidbpjkhlaaGreatK24
import Derived.Test.YtlefjidbpjkhlaaGreatK02
import Derived.Laws.Rows
import Derived.Test.YtlefjidbpjkhlaaGreatK00
set_option maxRecDepth 100000
set_option maxHeartbeats 16000000
namespace Go.Proofs.YtlefjidbpjkhlaaGreat
variable {Y Z Z' Zw:Nat->Prop}
variable {w w' w2 w3:World}
variable {K N b bl c cp f j k lo m n p st t x y:Nat}
variable {D:DataW (Nat×Nat×Int)}
variable {mv sv:Value}
variable {L:Nat->Option (List Int)}
variable {d:Pd}
variable {s:Js}
variable {Ts:List Tn}
open Go.RowKit Go.Deep Go.Maps Go.Sort Go.Shelf
theorem Wq.has_iff{nb fr:Nat}{a:Nat->Option (Nat×Nat×Int)}(h:Wq Z w x j m n nb fr bl D a sv mv L)(z:Int):z∈(homeKeys nb L).map Int.ofNat ↔ Maps.has D (.int .i64 z)=true:=by
 constructor
 ·intro hx
  obtain⟨y,hy,rfl⟩:=List.mem_map.1 hx
  obtain⟨h1,h2⟩:=mem_homeKeys.1 hy
  cases ha:a y with
  | none=>rw[h.non y ha]at h2;cases h2
  | some q=>exact (h.am.hit y q ha).1
 ·intro hx
  by_cases hq:∃y:Nat,(y:Int)=z/\a y≠none
  ·obtain⟨y,rfl,hy⟩:=hq
   cases ha:a y with
   | none=>exact absurd ha hy
   | some q=>
    obtain⟨zs,h1,_,_,h4,_⟩:=h.dat y q.1 q.2.1 q.2.2 ha
    exact List.mem_map.2 ⟨y,mem_homeKeys.2 ⟨h4.1,by rw[h1];rfl⟩,rfl⟩
  ·rw[h.am.miss z (fun y e=>Classical.byContradiction fun q=>hq ⟨y,e,q⟩)]at hx
   cases hx
theorem Wq.sorted{nb fr:Nat}{a:Nat->Option (Nat×Nat×Int)}(h:Wq Z w x j m n nb fr bl D a sv mv L){ss:List Int}(hp:ss.Perm (intKeys D)):ss.mergeSort (fun x y=>decide (x<=y))=(homeKeys nb L).map Int.ofNat/\ss.length=(homeKeys nb L).length:=by
 have hc:CollectedI D (fun _=>false) ((homeKeys nb L).map Int.ofNat):=⟨nodup_homeKeys _ _,fun z=>by rw[h.has_iff z];simp⟩
 have hq:=hc.perm h.mp law3 Tryz.underlying3 (fun _=>rfl)
 have hr:=hp.trans hq.symm
 refine⟨?_,by rw[hr.length_eq];simp⟩
 rw[mergeSort_of_perm_i hr]
 refine List.mergeSort_of_pairwise (List.pairwise_map.2 ?_)
 refine List.Pairwise.imp (fun {x y} q=>?_) (List.Pairwise.filter _ List.pairwise_lt_range)
 show decide (Int.ofNat x<=Int.ofNat y)=true
 simp only[decide_eq_true_eq]
 exact Int.ofNat_le.2 (Nat.le_of_lt q)
theorem Wq.look{nb fr:Nat}{a:Nat->Option (Nat×Nat×Int)}(h:Wq Z w x j m n nb fr bl D a sv mv L){g:Nat}{mk:Int}(hx:y<524288)(ha:a y=some (g,cp,mk)):(Instr.lookup 132 (.map (some m)) (.int .i64 (y:Int)) false).run Tryz.prog w=.ok (.agg #[.slice (some ⟨g,0,none⟩) 512 cp,.int .i64 mk]) w:=by
 obtain⟨v,ps,h1,h2⟩:=h.mp.lookup law3 Tryz.underlying132 (zero214 w) (zd:=.nil) (zp:=[]) rfl (keyOf3 (wf_small (x:=(y:Int)) (by omega) (by omega)))
 rw[(h.am.hit y (g,cp,mk) ha).2]at h2
 rw[wrElem_inv h2]at h1
 exact h1
theorem fld214(a:Option Addr)(n c:Nat)(k:Int)(w:World):(Instr.field 142 (.agg #[.slice a n c,.int .i64 k]) 0).run Tryz.prog w=.ok (.slice a n c) w:=by
 unfold Instr.field
 simp[run_underlying Tryz.underlying142,go_sem,part,asAgg]
def PutOf (Zw:Nat->Prop) (w:World) (p:Pm):Prop:=∃g,p.ad=some ⟨g,0,none⟩/\Zw g/\Own w g 512 p.cap p.data/\Pl.isB p.data/\p.data.length=512
theorem puts_any{nb fr:Nat}{a:Nat->Option (Nat×Nat×Int)}(hW:Wq Zw w x j m n nb fr bl D a sv mv L)(hnb:nb<=524288) :
  Calls Tryz.prog 41 #[.pointer (some ⟨x,0,none⟩)] w fun e w'=>∃g cp qs,e=.returned (.slice (some ⟨g,0,none⟩) (homeKeys nb L).length cp)/\w.heap.size<=g/\g<w'.heap.size/\qs.map Pm.say=(homeKeys nb L).map (fun (y:Nat)=>((y:Int),(L y).getD []))/\w'.ownsRow w.heap.size 144 2 (.slice (some ⟨g,0,none⟩) (homeKeys nb L).length cp) (homeKeys nb L).length (pmCells qs)/\(∀p∈qs,PutOf Zw w p)/\Below w.heap.size w w':=by
 obtain⟨i68,hi68,hz68,hs68,hb68⟩:=info_parts info68
 have hsz:Maps.size D<=524288:=by
  have:=hW.am.cnt
  have:=cntX_le a nb
  omega
 have hln:=hW.mp.len (P:=Tryz.prog) Tryz.underlying132 3
 obtain⟨w0,hmk,hrow0,hgr0⟩:=run_make_own (P:=Tryz.prog) w w.heap.size 87 144 i68 (.agg #[.int .i64 0,.slice none 0 0]) 2 Tryz.underlying87 hi68 hz68 hs68 .i64 .i64 (Maps.size D) (by rw[hb68];omega) (by unfold maxLen;omega) (Nat.le_refl _)
 have k1:=hW.cell 1
 simp at k1
 have b0:Below w.heap.size w w0:=((But.refl (fun _=>False) w).of_grown hgr0 (fun x e _=>by cases e)).below (Nat.le_refl _) (fun _ _ q=>q)
 have HWb:Hid (∀w',Below w.heap.size w w'->w'.cell? ⟨x,1,none⟩=some (.map (some m))/\∀y g cp k,y<nb->a y=some (g,cp,k)->(Instr.lookup 132 (.map (some m)) (.int .i64 (y:Int)) false).run Tryz.prog w'=.ok (.agg #[.slice (some ⟨g,0,none⟩) 512 cp,.int .i64 k]) w'):=fun w' b=>by
  have h':=hW.keep (w':=w') (fun k _ hk=>b.block k hk)
  exact⟨by have:=h'.cell 1;simpa using this,fun y g cp k hy ha=>h'.look (by omega) ha⟩
 have HK:=hid (keysB_any (some m) w0)
 have HS:=hid (sortedB_any m n D wrElem w0 (mapW_keep hW.mp (b0.block m hW.mp.lt)) (by unfold maxLen;omega) (by omega))
 have HSo:Hid (∀ss:List Int,ss.Perm (intKeys D)->ss.mergeSort (fun x y=>decide (x<=y))=(homeKeys nb L).map Int.ofNat/\ss.length=(homeKeys nb L).length):=fun ss hp=>hW.sorted hp
 have HD:Hid (∀y,y∈homeKeys nb L->∃g cp mk zs,y<nb/\a y=some (g,cp,mk)/\L y=some zs/\Zw g/\Own w g 512 cp zs/\Pl.isB zs):=fun y hy=>by
  obtain⟨h1,h2⟩:=mem_homeKeys.1 hy
  cases ha:a y with
  | none=>rw[hW.non y ha]at h2;cases h2
  | some q=>
   obtain⟨zs,e1,e2,e3,e4,e5⟩:=hW.dat y q.1 q.2.1 q.2.2 ha
   exact⟨q.1,q.2.1,q.2.2,zs,e4.1,rfl,e1,e5,e2,e3⟩
 have hlt0:=World.ownsRow.lt hrow0 w.heap.size rfl
 have H0:=hid (And.intro hrow0 (And.intro b0 hlt0.2))
 have k1':w0.cell? ⟨x,1,none⟩=some (.map (some m)):=(b0.cell (p:=⟨x,1,none⟩) hW.lt).trans k1
 clear hW hrow0 hgr0 b0 hlt0
 go_enter Tryz.func41,Tryz.ntmps41
 go_wp2_with fail
 refine Calls.mono HK.out ?_
 rintro e w1 ⟨rfl,rfl⟩
 go_wp2_with fail
 refine Calls.mono HS.out ?_
 rintro e w1 ⟨v,ss,rfl,hperm,hrow,_,b1⟩
 obtain⟨hsr,hln2⟩:=HSo.out ss hperm
 rw[hsr]at hrow
 rw[hln2]at hrow
 obtain⟨av,cv,rfl,_⟩:=owns_slice hrow
 have hkl:=length_homeKeys nb L
 have HR:Hid (∀(i y:Nat),(homeKeys nb L)[i]?=some y->∃gk,av=some ⟨gk,0,none⟩/\w0.heap.size<=gk/\gk<w1.heap.size/\w1.cell? ⟨gk,i,none⟩=some (.int .i64 (y:Int))):=fun i y hx=>by
  have hi:i<(homeKeys nb L).length:=(List.getElem?_eq_some_iff.1 hx).1
  rcases hrow.2 with ⟨_,q⟩ | ⟨gk,cap,cur,q1,q2,_⟩
  ·omega
  ·simp at q1
   have hlt:=(World.ownsRow.lt hrow gk (by rw[q1.1];rfl)).2
   refine⟨gk,q1.1,q2,hlt,?_⟩
   have hcell:=World.ownsRow.cellAt (by rw[q1.1]at hrow;exact hrow) i (by simp;omega)
   rw[hcell]
   simp[hx,encZ]
 have hs0:=H0.out.2.2
 have s1:=b1.size
 have hB1:Below w.heap.size w w1:=H0.out.2.1.trans (b1.mono (Nat.le_of_lt hs0))
 have HB1:=hid hB1
 have H1:=hid (owns_below H0.out.1 b1)
 obtain⟨N,hN⟩:∃N,(homeKeys nb L).length=N:=⟨_,rfl⟩
 rw[hN]at hkl ⊢
 have HN:=hid hN
 clear hsr hln2 hperm hrow b1 HK HS HSo H0 k1 k1' hB1 hln hmk hN
 go_wp2_with fail
 go_loopw [3,19] (fun ov iv wr=>∃(q g' cp':Nat) (qs:List Pm),q<=N/\iv=.int .i64 (q:Int)/\ov=.slice (some ⟨g',0,none⟩) q cp'/\wr.ownsRow w.heap.size 144 2 (.slice (some ⟨g',0,none⟩) q cp') q (pmCells qs)/\(qs.map Pm.say=((homeKeys nb L).take q).map (fun (y:Nat)=>((y:Int),(L y).getD []))/\∀p∈qs,PutOf Zw w p)/\But (fun k=>k=w.heap.size) w1 wr/\(g'=w.heap.size\/w1.heap.size<=g')/\g'<wr.heap.size) (fun _ iv _=>N-(intOf iv).toNat)
 case atStart=>exact⟨0,_,_,[],Nat.zero_le _,rfl,rfl,H1.out,⟨rfl,fun p hp=>by cases hp⟩,But.refl _ _,.inl rfl,by omega⟩
 case round=>
  clear H1
  obtain⟨q,g',cp',qs,hqN,rfl,rfl,hrow,hqs,hbt,hgw,hgl⟩:=hrel
  by_cases hq:q<N
  ·have hq':(q:Int)<(N:Int):=by omega
   obtain⟨y,hy0⟩:∃y,(homeKeys nb L)[q]?=some y:=⟨_,List.getElem?_eq_getElem (by have:=HN.out;omega)⟩
   obtain⟨gk,hav,hgk,hgk1,hck⟩:=HR.out q y hy0
   obtain⟨g,cp,mk,zs,hy,ha,hL,hzg,ho,hzb⟩:=HD.out y (List.mem_of_getElem? hy0)
   have hwr:Below w.heap.size w wr:=((But.of_below HB1.out (X:=fun k=>w.heap.size<=k)).trans (hbt.mono (fun k _ e=>by omega))).below (Nat.le_refl _) (fun k hk r=>by omega)
   have ck:wr.cell? ⟨gk,q,none⟩=some (.int .i64 (y:Int)):=(hbt.cell (p:=⟨gk,q,none⟩) hgk1 (fun r=>by have r2:gk=w.heap.size:=r;omega)).trans hck
   obtain⟨k1,kLs⟩:=HWb.out wr hwr
   have kL:=kLs y g cp mk hy ha
   have hfl:=fld214 (some ⟨g,0,none⟩) 512 cp mk wr
   have HRow2:=hid (owns_below hrow ((Below.refl wr.heap.size wr).alloc (Nat.le_refl _) (.cells #[.int .i64 (y:Int),.slice (some ⟨g,0,none⟩) 512 cp] 144)))
   have HQS:=hid hqs
   have HBT:=hid hbt
   have HV:=hid (And.intro hy0 (And.intro hL (And.intro hzg (And.intro ho hzb))))
   have hws:=hwr.size
   subst hav
   clear hrow hqs hbt hwr hck hy0 ha hL hzg ho hzb kLs HR HD
   go_wp2_with (at_builtin;refine wpList_append_lies _ rfl _ _ _ rfl w.heap.size 144 i68 (.agg #[.int .i64 0,.slice none 0 0]) 2 32 Tryz.underlying87 hi68 hz68 hs68 hb68 rfl (by decide) _ q _ rfl (by exact HRow2.out) ⟨wr.heap.size,0,none⟩ 1 1 [.int .i64 (y:Int),.slice (some ⟨g,0,none⟩) 512 cp] rfl rfl (by exact news2 wr _ _ _) (by intro u hu;simp at hu;rcases hu with rfl | rfl <;> rfl) (by decide) (by unfold maxLen;omega) (by omega) (by simp;omega) (wr.heap.size+1) (by simp) ?_)
   intro g4 cap4 w6 ho4 hg4 hlie4 hl4
   have hg5:(wr.alloc (.cells #[.int .i64 (y:Int),.slice (some ⟨g,0,none⟩) 512 cp] 144)).grownBy w6 (some g'):=hg4
   have hlie5:g'=g4\/g4=wr.heap.size+1:=by
    rcases hlie4 with r | r
    ·exact .inl (by injection r)
    ·exact .inr r
   have bX:But (fun x=>x=g') wr w6:=((But.refl (fun x=>x=g') wr).alloc (.cells #[.int .i64 (y:Int),.slice (some ⟨g,0,none⟩) 512 cp] 144)).of_grown hg5 (fun x e _=>by injection e with e;exact e.symm)
   have b6:But (fun k=>k=w.heap.size) w1 w6:=HBT.out.comp bX (fun z hz e=>by rcases hgw with r | r <;> omega)
   have FIN0:=hid (And.intro ho4 (And.intro hlie5 (And.intro b6 hl4)))
   clear ho4 hg4 hg5 hlie4 hlie5 bX b6 hl4 hfl
   have FIN:Hid (w6.ownsRow w.heap.size 144 2 (.slice (some ⟨g4,0,none⟩) (q+1) cap4) (q+1) (pmCells (qs++[⟨(y:Int),some ⟨g,0,none⟩,cp,zs⟩]))/\((qs++[(⟨(y:Int),some ⟨g,0,none⟩,cp,zs⟩:Pm)]).map Pm.say=((homeKeys nb L).take (q+1)).map (fun (y:Nat)=>((y:Int),(L y).getD []))/\∀p∈qs++[(⟨(y:Int),some ⟨g,0,none⟩,cp,zs⟩:Pm)],PutOf Zw w p)/\But (fun k=>k=w.heap.size) w1 w6/\(g4=w.heap.size\/w1.heap.size<=g4)/\g4<w6.heap.size):=by
    obtain⟨hy0,hL,hzg,ho,hzb⟩:=HV.out
    have hzl:zs.length=512:=ho.len
    refine⟨?_,⟨?_,fun p hp=>?_⟩,FIN0.out.2.2.1,?_,FIN0.out.2.2.2⟩
    ·rw[pmCells_snoc]
     simp only
     rw[hzl]
     exact FIN0.out.1
    ·rw[List.map_append,HQS.out.1,List.take_add_one,hy0,List.map_append]
     show _++[((y:Int),zs)]=_++[((y:Int),(L y).getD [])]
     rw[hL]
     rfl
    ·rcases List.mem_append.1 hp with hp | hp
     ·exact HQS.out.2 p hp
     ·simp only[List.mem_singleton]at hp
      subst hp
      exact⟨g,rfl,hzg,ho,hzb,hzl⟩
    ·have:=HBT.out.size
     rcases FIN0.out.2.1 with e4 | e4
     ·rw[<- e4];exact hgw
     ·right;omega
   clear FIN0 HRow2 HBT HQS HV k1 kL ck HWb
   go_wp2_with fail
   go_roundw
   case rel=>exact⟨q+1,g4,cap4,_,by omega,by go_num,rfl,FIN.out.1,FIN.out.2.1,FIN.out.2.2⟩
   case measure=>simp[intOf];omega
  ·have hq':¬(q:Int)<(N:Int):=by omega
   have hqe:q=N:=by omega
   subst hqe
   have hglt:=World.ownsRow.lt hrow g' rfl
   have FIN:Hid (w.heap.size<=g'/\g'<wr.heap.size/\qs.map Pm.say=(homeKeys nb L).map (fun (y:Nat)=>((y:Int),(L y).getD []))/\wr.ownsRow w.heap.size 144 2 (.slice (some ⟨g',0,none⟩) q cp') q (pmCells qs)/\(∀p∈qs,PutOf Zw w p)/\Below w.heap.size w wr):=by
    refine⟨hglt.1,hgl,by rw[hqs.1,List.take_of_length_le (by rw[<- HN.out];exact Nat.le_refl _)],hrow,hqs.2,((But.of_below HB1.out (X:=fun k=>w.heap.size<=k)).trans (hbt.mono (fun k _ e=>by omega))).below (Nat.le_refl _) (fun k hk r=>by omega)⟩
   clear hrow hqs hbt HWb HR HD
   go_wp2
   go_ret
   rw[HN.out]
   exact⟨g',cp',by rfl,FIN.out.1,FIN.out.2.1,qs,FIN.out.2.2⟩
open Go.RowKit Go.Deep
theorem puts_rd{g:Nat}{qs:List Pm}(hrow:w3.ownsRow w.heap.size 144 2 (.slice (some ⟨g,0,none⟩) N cp) N (pmCells qs))(hq:∀p∈qs,PutOf Zw w p)(hb:But Y w w3)(hY:∀k,k<w.heap.size->Zw k->¬Y k)(hZ:∀k,k<w.heap.size->Zw k->¬Z k)(hZg:¬Z g):RdP Z w3 (some ⟨g,0,none⟩) qs:=by
 refine⟨fun p hp=>?_,.inr ⟨g,0,rfl,(World.ownsRow.lt hrow g rfl).2,hZg,fun t p hp=>?_⟩⟩
 ·obtain⟨b,e1,e2,e3,e4,e5⟩:=hq p hp
  rw[e1,e5]
  exact (e3.keep (hb.block b e3.lt (hY b e3.lt e2))).rdn e4 (hZ b e3.lt e2)
 ·have hc:=World.ownsRow.cells hrow (g:=g) rfl
  obtain⟨r1,r2⟩:=pmCells_get qs t p hp
  have s1:=hc _ _ r1
  have s2:=hc _ _ r2
  rw[Addr.add_lit]at s1 s2
  exact⟨s1,s2⟩
def CmP (Z Zw:Nat->Prop) (w:World) (j c p room nb K fr bl:Nat) (d:Pd) (s:Js) (L:Nat->Option (List Int)) (t st:Nat) (e:Ending) (w':World):Prop :=
 ∃w3,Txb w3 t j .nilIface st (.pointer none)/\Stb w3 st j (.pointer none)/\But (fun k=>k=st\/k=t) w w3 /\
  ((homeKeys nb L=[]/\e=.returned (.int .i64 0)/\w'=w3)\/(homeKeys nb L≠[]/\∃qs,qs.map Pm.say=(homeKeys nb L).map (fun (y:Nat)=>((y:Int),(L y).getD []))/\(∀p∈qs,PutOf Zw w p)/\AppP (fun k=>Z k/\k<w.heap.size) w3 j c p room nb K fr bl d s qs e w'))
theorem commit_any{room nb fr:Nat}{a:Nat->Option (Nat×Nat×Int)}(h:Jq Z w j c p room nb K fr bl d s)(hj:Jn nb fr bl s)(hW:Wq Zw w x j m n nb fr bl D a sv mv L)(hZ:∀k,k<w.heap.size->Zw k->¬Z k)(hon:d.off=false)(hl:d.puts.length+nb+bl+bl+16<=1073741823)(hnb:nb<=524288)(ht:Txb w t j (.iface 83 (.pointer (some ⟨x,0,none⟩))) st (.pointer (some ⟨x,0,none⟩)))(hs:Stb w st j (.pointer (some ⟨t,0,none⟩)))(hne:st≠t)(hZt:¬Z t)(hZs:¬Z st)(hwt:¬Zw t)(hws:¬Zw st) :
  Calls Tryz.prog 13 #[.pointer (some ⟨t,0,none⟩)] w (CmP Z Zw w j c p room nb K fr bl d s L t st):=by
 refine poz fun PO hPO=>?_
 have HA:=hid (task_open h hon ht hs)
 have HT:Hid (∀w1,Below w.heap.size w w1->w1.cell? ⟨t,3,none⟩=some (.pointer (some ⟨x,0,none⟩))):=fun w1 b=>(b.cell (p:=⟨t,3,none⟩) ht.lt).trans (ht.cell 3)
 have HPu:Hid (∀w1,Below w.heap.size w w1->Calls Tryz.prog 41 #[.pointer (some ⟨x,0,none⟩)] w1 fun e w'=>∃g cp qs,e=.returned (.slice (some ⟨g,0,none⟩) (homeKeys nb L).length cp)/\w1.heap.size<=g/\g<w'.heap.size/\qs.map Pm.say=(homeKeys nb L).map (fun (y:Nat)=>((y:Int),(L y).getD []))/\w'.ownsRow w1.heap.size 144 2 (.slice (some ⟨g,0,none⟩) (homeKeys nb L).length cp) (homeKeys nb L).length (pmCells qs)/\(∀p∈qs,PutOf (fun k=>Zw k/\k<w.heap.size) w1 p)/\Below w1.heap.size w1 w'):=fun w1 b=>by
  refine puts_any (sv:=sv) (mv:=mv) (x:=x) (j:=j) (m:=m) (n:=n) (nb:=nb) (fr:=fr) (bl:=bl) (D:=D) (a:=a) (L:=L) ?_ hnb
  exact⟨(hW.keep (w':=w1) (fun k _ hk=>b.block k hk)).blk,(hW.keep (w':=w1) (fun k _ hk=>b.block k hk)).mp,hW.am,fun y g cp k e=>by
   obtain⟨zs,q1,q2,q3,q4,q5⟩:=hW.dat y g cp k e
   exact⟨zs,q1,q2.keep (b.block g q2.lt),q3,q4,q5,q2.lt⟩,hW.non,⟨hW.zx,hW.lt⟩,⟨hW.zm,hW.mp.lt⟩⟩
 have HE:Hid (∀w2,Below w.heap.size w w2->Calls Tryz.prog 42 #[.pointer (some ⟨t,0,none⟩)] w2 fun e w'=>e=.returned (.tuple #[])/\Txb w' t j .nilIface st (.pointer none)/\Stb w' st j (.pointer none)/\But (fun k=>k=st\/k=t) w2 w'):=fun w2 b=>end_any (ht.keep (b.block t ht.lt)) (hs.keep (b.block st hs.lt)) hne
 have HF0:Hid (∀w3,Txb w3 t j .nilIface st (.pointer none)->Stb w3 st j (.pointer none)->But (fun k=>k=st\/k=t) w w3->homeKeys nb L=[]->PO (.returned (.int .i64 0)) w3):=fun w3 q1 q2 q3 q4=>by
  rw[hPO];exact⟨w3,q1,q2,q3,.inl ⟨q4,rfl,rfl⟩⟩
 have HF1:Hid (∀w1 w2 w3 g cp qs,Below w.heap.size w w1->Below w1.heap.size w1 w2->But (fun k=>k=st\/k=t) w2 w3->Txb w3 t j .nilIface st (.pointer none)->Stb w3 st j (.pointer none)->w1.heap.size<=g->w2.ownsRow w1.heap.size 144 2 (.slice (some ⟨g,0,none⟩) (homeKeys nb L).length cp) (homeKeys nb L).length (pmCells qs)->qs.map Pm.say=(homeKeys nb L).map (fun (y:Nat)=>((y:Int),(L y).getD []))->(∀p∈qs,PutOf (fun k=>Zw k/\k<w.heap.size) w1 p)->homeKeys nb L≠[]->Calls Tryz.prog 43 #[.pointer (some ⟨j,0,none⟩),.slice (some ⟨g,0,none⟩) (homeKeys nb L).length cp] w3 fun e w'=>(∃code,e=.returned (.int .i64 code))/\PO e w'):=fun w1 w2 w3 g cp qs b1 b2 b3 q1 q2 q3 q4 q5 q6 q7=>by
  have s1:=b1.size
  have s2:=b2.size
  have stl:=hs.lt
  have ttl:=ht.lt
  have q6':∀p∈qs,PutOf Zw w p:=fun p hp=>by
   obtain⟨b,e1,e2,e3,e4,e5⟩:=q6 p hp
   exact⟨b,e1,e2.1,e3.keep (b1.block b e2.2).symm,e4,e5⟩
  have q4':w3.ownsRow w1.heap.size 144 2 (.slice (some ⟨g,0,none⟩) (homeKeys nb L).length cp) (homeKeys nb L).length (pmCells qs):=owns_keep q4 (fun k e=>b3.block k (World.ownsRow.lt q4 k e).2 (fun e2=>by
   have:=(World.ownsRow.lt q4 k e).1
   rcases e2 with e2 | e2 <;> omega))
  have bb:But (fun k=>k=st\/k=t) w w3:=(But.of_below (b1.trans (b2.mono s1)) (X:=fun k=>k=st\/k=t)).comp b3 (fun _ _ q=>q)
  have bb1:But (fun k=>k=st\/k=t) w1 w3:=(But.of_below b2 (X:=fun k=>k=st\/k=t)).comp b3 (fun _ _ q=>q)
  have hlen:qs.length=(homeKeys nb L).length:=by
   have:=congrArg List.length q5
   simpa using this
  have hkl:=length_homeKeys nb L
  have hrd:RdP (fun k=>Z k/\k<w.heap.size) w3 (some ⟨g,0,none⟩) qs:=puts_rd (w:=w1) q4' q6 bb1 (fun k hk e e2=>e2.elim (fun q=>hws (q ▸ e.1)) (fun q=>hwt (q ▸ e.1))) (fun k hk e e2=>hZ k e.2 e.1 e2.1) (fun e=>by omega)
  have hA:=Append_on (h.cut.but bb (fun k hk e e2=>e2.elim (fun q=>hZs (q ▸ e.1)) (fun q=>hZt (q ▸ e.1)))) hj hon (some ⟨g,0,none⟩) cp qs hrd (by omega) hl
  rw[hlen]at hA
  refine Calls.mono hA ?_
  intro e w' r
  refine⟨?_,?_⟩
  ·by_cases hc:appC nb fr bl d s qs=0
   ·exact⟨_,(r.1 hc).1⟩
   ·exact⟨_,(r.2 hc).1⟩
  rw[hPO]
  exact⟨w3,q1,q2,bb,.inr ⟨q7,qs,q5,q6',r⟩⟩
 clear h hj hW hZ hs ht hPO hZt hZs hwt hws
 go_enter Tryz.func13,Tryz.ntmps13
 go_wp2_with fail
 refine Calls.mono HA.out ?_
 rintro e w1 ⟨rfl,b1⟩
 have B1:=hid b1
 have k3:=HT.out w1 b1
 have HP1:=hid (HPu.out w1 b1)
 clear b1 HA HT HPu
 go_wp2_with fail
 refine Calls.mono HP1.out ?_
 rintro e w2 ⟨g,cp,qs,rfl,hg,hgl,hq,hrow,hqs,b2⟩
 have B2:=hid b2
 have HE2:=hid (HE.out w2 (B1.out.trans (b2.mono B1.out.size)))
 have HQ:=hid (And.intro hg (And.intro hq (And.intro hrow hqs)))
 clear HP1 HE hg hgl hq hrow hqs b2 k3
 go_wp2_with fail
 refine Calls.mono HE2.out ?_
 rintro e w3 ⟨rfl,ht3,hs3,b3⟩
 have k0:=ht3.cell 0
 simp at k0
 have hkl:=length_homeKeys nb L
 by_cases hk:homeKeys nb L=[]
 ·have FIN:=hid (HF0.out w3 ht3 hs3 ((But.of_below (B1.out.trans (B2.out.mono B1.out.size)) (X:=fun k=>k=st\/k=t)).comp b3 (fun _ _ q=>q)) hk)
  have hN:(homeKeys nb L).length=0:=by rw[hk];rfl
  clear HF0 HF1 HQ b3 HE2 ht3 hs3 B1 B2 hk
  generalize (homeKeys nb L).length=N at *
  subst hN
  go_wp2
  exact FIN.out
 ·have HC:=hid (HF1.out w1 w2 w3 g cp qs B1.out B2.out b3 ht3 hs3 HQ.out.1 HQ.out.2.2.1 HQ.out.2.1 HQ.out.2.2.2 hk)
  have hN:0<(homeKeys nb L).length:=List.length_pos_iff.2 hk
  clear HF0 HF1 HQ b3 HE2 ht3 hs3 B1 B2 hk
  generalize (homeKeys nb L).length=N at *
  have hN':¬(N:Int)=0:=by omega
  go_wp2_with fail
  refine Calls.mono HC.out ?_
  rintro e w4 ⟨⟨code,rfl⟩,r⟩
  have FIN:=hid r
  clear r HC
  go_wp2
  exact FIN.out
open Go.RowKit Go.Deep
theorem isB_zeros'(n:Nat):Pl.isB (zeros n):=fun z hz=>by
 have:=List.eq_of_mem_replicate hz
 omega
theorem dnew_any(nb:Nat)(lo:1<=nb)(hi:nb<=524288)(w:World) :
  Calls Tryz.prog 34 #[.int .i64 (nb:Int)] w fun e w'=>∃p,e=.returned (.tuple #[.pointer (some ⟨p,0,none⟩),.int .i64 0])/\w.heap.size<=p/\Dk (fun x=>w.heap.size<=x) w' p (zeros (512 * nb)) [] (-1) false nb/\Below w.heap.size w w':=by
 refine poz fun PO hPO=>?_
 have hmk:(Instr.makeSlice 65 (.int .i64 ((nb:Int) * 512)) (.int .i64 ((nb:Int) * 512))).run Tryz.prog w=.ok (.slice (some ⟨w.heap.size,0,none⟩) (512 * nb) (512 * nb)) (w.alloc (.cells ((zeros (512 * nb)).map (Value.int .u8)).toArray 5)):=by
  have:=make_u8 (512 * nb) (by omega) w
  rw[show ((512 * nb:Nat):Int)=(nb:Int) * 512 by omega]at this
  exact this
 have HD:Hid (Calls Tryz.prog 67 #[.slice (some ⟨w.heap.size,0,none⟩) (512 * nb) (512 * nb)] (w.alloc (.cells ((zeros (512 * nb)).map (Value.int .u8)).toArray 5)) fun e w'=>∃p,e=.returned (.pointer (some ⟨p,0,none⟩))/\PO (.returned (.tuple #[.pointer (some ⟨p,0,none⟩),.int .i64 0])) w'):=by
  have ho:Own (w.alloc (.cells ((zeros (512 * nb)).map (Value.int .u8)).toArray 5)) w.heap.size (512 * nb) (512 * nb) (zeros (512 * nb)):=Own.of_blk (Array.getElem?_push_size) (by simp[zeros]) (by unfold maxLen;omega)
  refine Calls.mono (diskOf_any ho (isB_zeros' _) lo hi) ?_
  rintro e w' ⟨p,rfl,h1,h2,h3⟩
  refine⟨p,rfl,?_⟩
  rw[hPO]
  have s1:(w.alloc (.cells ((zeros (512 * nb)).map (Value.int .u8)).toArray 5)).heap.size=w.heap.size+1:=by simp
  exact⟨p,rfl,by omega,h2.mono (fun k q=>by rcases q with q | q <;> omega),((Below.refl w.heap.size w).alloc (Nat.le_refl _) _).trans (h3.mono (by omega))⟩
 have hn1:¬(nb:Int)<1:=by omega
 have hn2:¬(524288:Int)<(nb:Int):=by omega
 clear hPO
 go_enter Tryz.func34,Tryz.ntmps34
 go_wp2_with fail
 refine Calls.mono HD.out ?_
 rintro e w1 ⟨p,rfl,q⟩
 have FIN:=hid q
 clear q HD
 go_wp2
 exact FIN.out
theorem topen_any{room nb fr:Nat}(h:Jq Z w j c p room nb K fr bl d s)(hon:d.off=false) :
  Calls Tryz.prog 71 #[.pointer (some ⟨j,0,none⟩)] w fun e w'=>∃st,e=.returned (.tuple #[.pointer (some ⟨st,0,none⟩),.int .i64 0])/\w.heap.size<=st/\Stb w' st j (.pointer none)/\Below w.heap.size w w':=by
 refine poz fun PO hPO=>?_
 obtain⟨w1,hw1⟩:∃w1,w1=w.alloc (.cells #[.pointer (some ⟨j,0,none⟩),.iface 76 (.pointer (some ⟨j,0,none⟩)),.pointer none] 82):=⟨_,rfl⟩
 have b1:Below w.heap.size w w1:=by rw[hw1];exact (Below.refl _ _).alloc (Nat.le_refl _) _
 have s1:Stb w1 w.heap.size j (.pointer none):=by rw[hw1];exact Array.getElem?_push_size
 have HA:Hid (Calls Tryz.prog 37 #[.pointer (some ⟨w.heap.size,0,none⟩)] w1 fun e w'=>e=.returned (.int .i64 0)/\PO (.returned (.tuple #[.pointer (some ⟨w.heap.size,0,none⟩),.int .i64 0])) w'):=by
  have hA:=sask_any (h.below b1) s1
  rw[hon]at hA
  refine Calls.mono hA ?_
  rintro e w' ⟨rfl,b2⟩
  refine⟨rfl,?_⟩
  rw[hPO]
  exact⟨w.heap.size,rfl,Nat.le_refl _,s1.keep (b2.block _ s1.lt),b1.trans (b2.mono b1.size)⟩
 have HW:Hid (w1=w.alloc (.cells #[.pointer (some ⟨j,0,none⟩),.iface 76 (.pointer (some ⟨j,0,none⟩)),.pointer none] 82)):=hw1
 clear h hPO b1 s1 hw1
 go_enter Tryz.func71,Tryz.ntmps71
 go_wp2_with fail
 rw[<- HW.out]
 refine Calls.mono HA.out ?_
 rintro e w2 ⟨rfl,q⟩
 have FIN:=hid q
 clear q HA HW
 go_wp2
 exact FIN.out
open Go.RowKit
theorem OpenP.anew{room nb:Nat}{home:Nat->List Int}{e:Ending}(H:OpenP Z w c p room nb K d (f:Int) (b:Int) e w')(h:On d s nb f b lo home Ts)(hfu:d.fu=-1)(hf:d.Fits nb)(hlo:16<=b)(hfit:f+b<=nb)(hnb:nb<=524288) :
  But Z w w'/\∃j Z' d' s',e=.returned (.tuple #[.pointer (some ⟨j,0,none⟩),.int .i64 0])/\w.heap.size<=j/\Gr Z Z' w/\d'.fu=-1/\Jq Z' w' j c p room nb K f b d' s'/\On d' s' nb f b Ts.length home Ts:=by
 have hset:=h.settle hf hlo hfit hnb
 obtain⟨q,base,ts,k,hn⟩:=h.nm
 obtain⟨h1,h2,h3⟩:=hn.again hnb hfit
 obtain⟨b1,jv,code,rfl,kk⟩:=H
 have hlc:layC d nb (f:Int) (b:Int)=0:=by
  unfold layC
  rw[h.on,if_neg (by simp)]
  exact placeC_ok hlo hfit hnb
 refine⟨b1,?_⟩
 rcases kk with ⟨k1,_⟩ | ⟨_,f',b',ef,eb,_,_,kk⟩
 ·exact absurd hlc k1
 ·have ef':f'=f:=by omega
  have eb':b'=b:=by omega
  subst ef' eb'
  rcases kk with ⟨_,_,k | ⟨l',q',k1,k2⟩,_⟩ | ⟨l',q',k1,k2,k3,Z',k4,k5⟩
  ·rw[h1]at k;cases k
  ·rw[h1]at k1
   cases k1
   rw[h2]at k2
   exact absurd h3 k2
  ·rw[h1]at k1
   cases k1
   rw[h2]at k3 k5
   obtain⟨f1,_,f3⟩:=Pd.runs_free h.on hfu (settleCmds nb f' b' s)
   rcases k5 with ⟨k6,_⟩ | ⟨k6,j,k7,k8,k9⟩
   ·exact absurd (k3.trans f1) k6
   ·subst k6 k7
    exact⟨j,Z',_,_,rfl,k8,k4,f3,k9,(hset.1 f1).1⟩
open Go.RowKit Go.Deep
theorem Cq.new'{room nb:Nat}(hD:Dk Z w2 p d.img d.puts d.fu d.off nb)(hC:Cst (fun k=>w2.heap.size<=k) w3 c p room 0 0 [])(hb:Below w2.heap.size w2 w3):Cq (fun k=>(Z k\/w2.heap.size<=k)/\k<w3.heap.size) w3 c p room nb 0 d:=by
 refine⟨fun k=>Z k/\k<w2.heap.size,fun k=>w2.heap.size<=k/\k<w3.heap.size,0,0,[],⟨hC.cut,hD.cut.keep (fun k _ hk=>hb.block k hk),fun k q q'=>by omega⟩,fun k q=>⟨.inl q.1,Nat.lt_of_lt_of_le q.2 hb.size⟩,fun k q=>⟨.inr q.1,q.2⟩,fun k q=>q.2,Good.nil _ _ _,⟨by omega,by omega⟩,⟨by omega,by omega⟩⟩
open Go.RowKit Go.Deep
open Go.RowKit Go.Deep
open Go.RowKit Go.Deep
open Go.RowKit Go.Deep
open Go.RowKit Go.Deep
open Go.RowKit Go.Deep
theorem homeKeys_succ(nb:Nat)(L:Nat->Option (List Int)):homeKeys (nb+1) L=homeKeys nb L++(if (L nb).isSome then [nb] else []):=by
 unfold homeKeys
 rw[List.range_succ,List.filter_append]
 congr 1
 by_cases h:(L nb).isSome=true <;> simp[h]
def putsL (nb:Nat) (L:Nat->Option (List Int)):List (Nat×List Int):=(homeKeys nb L).map (fun y=>(y,(L y).getD []))
theorem ahead_putsL(nb:Nat)(L:Nat->Option (List Int))(x:Nat):aheadP (fun _=>none) (putsL nb L) x=if x<nb then L x else none:=by
 induction nb with
 | zero=>simp[putsL,homeKeys,aheadP]
 | succ nb ih=>
  unfold putsL at ih ⊢
  rw[homeKeys_succ,List.map_append]
  cases hL:L nb with
  | none=>
   simp only[Option.isSome_none,Bool.false_eq_true,if_false,List.map_nil,List.append_nil]
   rw[ih]
   by_cases h:x<nb
   ·rw[if_pos h,if_pos (by omega)]
   ·rw[if_neg h]
    by_cases h2:x=nb
    ·rw[if_pos (by omega),h2,hL]
    ·rw[if_neg (by omega)]
  | some zs=>
   simp only[Option.isSome_some,if_true,List.map_cons,List.map_nil,hL,Option.getD_some]
   rw[aheadP_snoc]
   simp only
   by_cases h2:x=nb
   ·rw[if_pos h2,if_pos (by omega),h2,hL]
   ·rw[if_neg h2,ih]
    by_cases h:x<nb
    ·rw[if_pos h,if_pos (by omega)]
    ·rw[if_neg h,if_neg (by omega)]
theorem contT_putsL(home:Nat->List Int)(Ts:List Tn)(nb:Nat)(L:Nat->Option (List Int))(hx:x<nb):contT home (Ts++[putsL nb L]) (Ts++[putsL nb L]).length x=(L x).getD (contT home Ts Ts.length x):=by
 unfold contT
 rw[List.take_of_length_le (Nat.le_refl _),List.take_of_length_le (Nat.le_refl _),<- after_append]
 show (aheadP (fun _=>none) ([putsL nb L]:List Tn).flatten x).getD (after home Ts x)=_
 rw[show ([putsL nb L]:List Tn).flatten=putsL nb L by simp,ahead_putsL,if_pos hx]
theorem standP_le(ps:List Pm):(standP ps).length<=ps.length:=by
 suffices H:∀(ps S:List Pm),(ps.foldl standStep S).length<=S.length+ps.length by
  have:=H ps []
  simpa [standP] using this
 intro ps
 induction ps with
 | nil=>intro S;simp
 | cons p ps ih=>
  intro S
  have h1:=ih (standStep S p)
  have h2:(standStep S p).length<=S.length+1:=by
   unfold standStep
   split <;> simp
  simp only[List.foldl_cons,List.length_cons]
  omega
theorem CmP.on{room nb fr:Nat}{e:Ending}{home:Nat->List Int}(H:CmP Z Zw w j c p room nb K fr bl d s L t st e w')(h:Jq Z w j c p room nb K fr bl d s)(ho:On d s nb fr bl lo home Ts)(hfu:d.fu=-1)(hlo:16<=bl)(hfit:fr+bl<=nb)(hnb:nb<=524288)(hsq:Ts.length<1099511627776)(hk:(homeKeys nb L).length<=bl / 2-4)(hh:∀y,y∈homeKeys nb L->homeC nb fr bl (y:Int)=0)(hZt:¬Z t)(hZs:¬Z st) :
  e=.returned (.int .i64 0)/\Stb w' st j (.pointer none)/\But (fun k=>Z k\/k=st\/k=t) w w'/\∃Z' d' s' Ts',Jq Z' w' j c p room nb K fr bl d' s'/\Gr Z Z' w/\d'.fu=-1/\On d' s' nb fr bl lo home Ts'/\Ts'.length<=Ts.length+1/\∀x,x<nb->contT home Ts' Ts'.length x=(L x).getD (contT home Ts Ts.length x):=by
 obtain⟨w3,q1,q2,q3,q4⟩:=H
 have hsl:=q2.lt
 rcases q4 with ⟨k1,rfl,rfl⟩ | ⟨k1,qs,k2,k3,k4⟩
 ·refine⟨rfl,q2,q3.mono (fun _ _ q=>.inr q),fun k=>Z k/\k<w.heap.size,d,s,Ts,h.cut.but q3 (fun k _ e1 e2=>e2.elim (fun q=>hZs (q ▸ e1.1)) (fun q=>hZt (q ▸ e1.1))),fun k _ q=>q.1,hfu,ho,by omega,fun x hx=>?_⟩
  have:L x=none:=by
   cases hL:L x with
   | none=>rfl
   | some zs=>
    have:x∈homeKeys nb L:=mem_homeKeys.2 ⟨hx,by rw[hL];rfl⟩
    rw[k1]at this
    cases this
  rw[this]
  rfl
 ·have hql:qs.length=(homeKeys nb L).length:=by
   have:=congrArg List.length k2
   simpa using this
  have hput:qs.map Pm.put=putsL nb L:=by
   have:qs.map Pm.put=(qs.map Pm.say).map fun x=>(x.1.toNat,x.2):=by rw[List.map_map];rfl
   rw[this,k2,List.map_map]
   unfold putsL
   refine List.map_congr_left (fun y _=>?_)
   simp
  have hpc:putsC nb fr bl qs=0:=putsC_zero (fun p hp=>by
   have hm:p.say∈qs.map Pm.say:=List.mem_map_of_mem hp
   rw[k2]at hm
   obtain⟨y,hy,e1⟩:=List.mem_map.1 hm
   obtain⟨_,_,_,_,_,e5⟩:=k3 p hp
   have e2:p.at_=(y:Int):=congrArg Prod.fst e1.symm
   unfold putC
   rw[e2,hh y hy,e5]
   simp)
  have hst:=standP_le qs
  have hap:appC nb fr bl d s qs=0:=by
   unfold appC
   rw[ho.on,hpc,if_neg (by decide),if_neg (by simp),if_neg (by omega),if_neg (by have:=ho.sq;omega)]
  have hA:=ho.append h.fits.1 hlo hfit hnb (fun p hp=>by obtain⟨_,_,_,_,e4,_⟩:=k3 p hp;exact e4) hap
  obtain⟨f1,_,f3⟩:=Pd.runs_free ho.on hfu (wlCmds nb fr bl s (appRecs qs))
  obtain⟨r1,⟨Z',s',r2,r3,r4⟩,r5⟩:=k4.1 hap
  rw[f1]at r1
  have hon:=hA.1 f1
  rw[hput,<- r3 f1]at hon
  refine⟨r1,q2.keep (r5.block st hsl (fun e=>hZs e.1)),(q3.mono (fun _ _ q=>.inr q)).comp r5 (fun k _ q=>.inl q.1),Z',_,s',Ts++[putsL nb L],r2,fun k hk q=>(r4 k (Nat.lt_of_lt_of_le hk q3.size) q).1,f3,hon,by simp,fun x hx=>contT_putsL home Ts nb L hx⟩
open Go.RowKit Go.Deep
def grow (Y:Nat->Prop) (w w':World) (k:Nat):Prop:=(Y k/\k<w.heap.size)\/(w.heap.size<=k/\k<w'.heap.size)
theorem grow.gr(Y:Nat->Prop)(w w':World):Gr Y (grow Y w w') w:=fun k hk q=>by
 rcases q with q | q
 ·exact q.1
 ·omega
def StA (Y:Nat->Prop) (w:World) (j c p st nb K fr bl:Nat) (d:Pd) (s:Js):Prop :=
 ∃Z,Jq Z w j c p 16 nb K fr bl d s/\(∀k,Z k->Y k)/\Stb w st j (.pointer none)/\¬Z st/\Y st
def StT (Y:Nat->Prop) (w:World) (j c p st nb K fr bl:Nat) (d:Pd) (s:Js) (t x m n:Nat) (L:Nat->Option (List Int)):Prop :=
 ∃Z Zw D a,Jq Z w j c p 16 nb K fr bl d s/\Wq Zw w x j m n nb fr bl D a (.slice none 0 0) (.slice none 0 0) L/\Txb w t j (.iface 83 (.pointer (some ⟨x,0,none⟩))) st (.pointer (some ⟨x,0,none⟩))/\Stb w st j (.pointer (some ⟨t,0,none⟩))/\(∀k,Z k->Y k)/\(∀k,Zw k->Y k/\¬Z k)/\(∀z g cp k,a z=some (g,cp,k)->g≠m)/\(x≠m/\st≠t)/\(¬Z t/\¬Zw t/\Y t)/\(¬Z st/\¬Zw st/\Y st)
open Go.RowKit Go.Deep
def growZ (Y Z:Nat->Prop) (w w':World) (k:Nat):Prop:=(Y k/\k<w.heap.size)\/(Z k/\w.heap.size<=k/\k<w'.heap.size)
theorem growZ.gr(Y Z:Nat->Prop)(w w':World):Gr Y (growZ Y Z w w') w:=fun k hk q=>by
 rcases q with q | q
 ·exact q.1
 ·omega
theorem growZ.of(hz:∀k,Z k->Y k)(hg:Gr Z Z' w)(hk:Z' k)(hl:k<w'.heap.size):growZ Y Z' w w' k:=by
 rcases Nat.lt_or_ge k w.heap.size with q | q
 ·exact .inl ⟨hz k (hg k q hk),q⟩
 ·exact .inr ⟨hk,q,hl⟩
open Go.RowKit Go.Deep
end Go.Proofs.YtlefjidbpjkhlaaGreat
