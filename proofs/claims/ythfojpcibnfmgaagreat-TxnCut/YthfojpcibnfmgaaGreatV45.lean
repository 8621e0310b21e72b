import Derived.Test.YthfojpcibnfmgaaGreatV44
import Derived.Test.YthfojpcibnfmgaaGreatV05
set_option maxRecDepth 100000
set_option maxHeartbeats 16000000
namespace Go.Proofs.YthfojpcibnfmgaaGreat
variable {Q Q' X X' Y:Nat->Prop}
variable {w w' w0:World}
variable {a da:Option Addr}
variable {As:List Aw}
variable {M b dc e i k m n p:Nat}
variable {r:Ra}
variable {xs:List Value}
variable {v':Dv}
variable {way:List Pu}
variable {lv mv wv:Value}
variable {img ks:List Int}
variable {fu:Int}
variable {off:Bool}
open Go.RowKit Go.Deep
variable {Gm:Nat×Nat×Nat}
structure AwIn (Q:Nat->Prop) (w:World) (a:Aw):Prop where
 lo:-9223372036854775808<=a.at_
 hi:a.at_<=9223372036854775807
 rn:a.rn<=16777216
 raw:∃zs,RdN (fun k=>¬Q k) w a.ra a.rn zs
def RdA (Q:Nat->Prop) (w:World) (a:Option Addr) (As:List Aw):Prop :=
 As=[]\/∃b off,a=some ⟨b,off,none⟩/\Q b/\b<w.heap.size/\∀t q,As[t]?=some q->w.cell? ⟨b,off+t * 6,none⟩=some (.int .i64 q.wh)/\w.cell? ⟨b,off+t * 6+1,none⟩=some (.int .i64 q.kd)/\w.cell? ⟨b,off+t * 6+2,none⟩=some (.int .i64 q.tx)/\w.cell? ⟨b,off+t * 6+3,none⟩=some (.int .i64 q.at_)/\w.cell? ⟨b,off+t * 6+4,none⟩=some (.int .i64 q.fl)/\w.cell? ⟨b,off+t * 6+5,none⟩=some (.slice q.ra q.rn q.rc)
def Scr (Q:Nat->Prop) (w:World) (a:Option Addr) (As:List Aw):Prop:=RdA Q w a As/\∀q∈As,AwIn Q w q
theorem Scr.but(h:Scr Q w a As)(hb:But (fun k=>¬Q k) w w'):Scr Q w' a As:=by
 refine⟨?_,fun q hq=>?_⟩
 ·rcases h.1 with e | ⟨b,o,e,hq,l,q⟩
  ·exact .inl e
  ·have K:∀i,w'.cell? ⟨b,i,none⟩=w.cell? ⟨b,i,none⟩:=fun i=>hb.cell (p:=⟨b,i,none⟩) l (fun r=>r hq)
   refine .inr ⟨b,o,e,hq,Nat.lt_of_lt_of_le l hb.size,fun t d hd=>?_⟩
   obtain⟨q0,q1,q2,q3,q4,q5⟩:=q t d hd
   exact⟨(K _).trans q0,(K _).trans q1,(K _).trans q2,(K _).trans q3,(K _).trans q4,(K _).trans q5⟩
 ·obtain⟨r1,r2,r3,zs,r4⟩:=h.2 q hq
  exact⟨r1,r2,r3,zs,r4.but hb⟩
theorem Scr.wide(h:Scr Q w a As)(hq:∀k,Q k->Q' k):Scr Q' w a As:=by
 refine⟨h.1.imp id (fun⟨b,o,e,hb,l,q⟩=>⟨b,o,e,hq b hb,l,q⟩),fun q hm=>?_⟩
 obtain⟨r1,r2,r3,zs,r4⟩:=h.2 q hm
 exact⟨r1,r2,r3,zs,r4.mono (fun k _ e1 e2=>e1 (hq k e2))⟩
theorem Scr.at(h:Scr Q w a As){q:Aw}(hq:As[i]?=some q):∃b off,a=some ⟨b,off,none⟩/\(w.cell? ⟨b,off+i * 6,none⟩=some (.int .i64 q.wh)/\w.cell? ⟨b,off+i * 6+1,none⟩=some (.int .i64 q.kd)/\w.cell? ⟨b,off+i * 6+2,none⟩=some (.int .i64 q.tx)/\w.cell? ⟨b,off+i * 6+3,none⟩=some (.int .i64 q.at_)/\w.cell? ⟨b,off+i * 6+4,none⟩=some (.int .i64 q.fl)/\w.cell? ⟨b,off+i * 6+5,none⟩=some (.slice q.ra q.rn q.rc)):=by
 rcases h.1 with e | ⟨b,off,e,_,_,hc⟩
 ·rw[e]at hq;cases hq
 ·exact⟨b,off,e,hc i q hq⟩
def Edset (Y:Nat->Prop) (ob:Nat) (v:Dv) (k:Nat):Prop:=Y k\/Rnset v.r k\/k=ob
def wayL (ways:List Pu):List (List Pu):=if ways.isEmpty then [] else [ways]
structure Ed (Gm:Nat×Nat×Nat) (M:Nat) (Y:Nat->Prop) (w:World) (ob:Nat) (v:Dv) (ways:List Pu):Prop where
 P:StO Y w v.j v.c v.p v.st v.nb v.K v.fr v.bl v.d v.s v.o
 yb:∀k,Y k->k<w.heap.size
 c0:w.cell? ⟨ob,0,none⟩=some (ptrV v.p)
 c2:w.cell? ⟨ob,2,none⟩=some (ptrV v.r.rb)
 ol:ob<w.heap.size
 R:Rdn w v.nb v.fr v.bl v.r
 nO:¬Y ob
 nR:∀k,Rnset v.r k->¬Y k
 rO:¬Rnset v.r ob
 on:v.d.off=false->ways=[]/\∃lo,∃home Ts,On v.d v.s v.nb v.fr v.bl lo home Ts/\Hc v.nb v.fr v.bl home Ts v.r.Fs v.r.Ds lo v.r.sure/\Ts.length<=M
 ct:v.d.off=true->∃lo,∃home Ts,Cut v.d v.nb v.fr v.bl lo home Ts/\Hc v.nb v.fr v.bl home Ts v.r.Fs (v.r.Ds++wayL ways) lo v.r.sure/\Ts.length<=M
 db:v.r.Ds.length+134217728<=M/\∀ps∈v.r.Ds,ps.length<=M
 pl:v.d.puts.length<=4 * v.nb+64
 wl:ways.length<=M
 lo:16<=v.bl
 fit:v.fr+v.bl<=v.nb
 nb:v.nb<=524288
 gr:Gm=(v.nb,v.fr,v.bl)
 fs:v.r.Fs=List.replicate v.nb (strOfNums (zeros 512))
theorem Rnset.rset(h:Rnset r k):Rset r k:=by
 rcases h with h | h | h | h
 ·exact .inl h
 ·exact .inr (.inl h)
 ·exact .inr (.inr (.inl h))
 ·exact .inr (.inr (.inr (.inl h)))
theorem Edset.ball{ob:Nat}{v:Dv}(h:Edset Y ob v k):Ball Y ob v k:=by
 rcases h with h | h | h
 ·exact .inl h
 ·exact .inr (.inl (.inl h.rset))
 ·exact .inr (.inl (.inr (.inl (.inl h))))
theorem DqR.nob{ob:Nat}{v:Dv}(h:DqR w ob v):¬Rset v.r ob:=fun e=>by
 obtain⟨cur,e9,hc,he⟩:=h.rf.kinds e
 obtain⟨⟨Nn,h1⟩,_⟩:=h.ls
 unfold Lnd at h1
 rw[h1]at hc
 injection hc with hc
 injection hc with _ hc
 rcases he with rfl | rfl | rfl | rfl | rfl | rfl <;> cases hc
theorem Ed.of_rl{ob:Nat}{v:Dv}(h:Dq Y w ob v)(hr:Rl Gm M v):Ed Gm M Y w ob v [] where
 P:=h.P.pg
 yb:=h.P.yb
 c0:=h.R.cells.1
 c2:=h.R.cells.2.2.1
 ol:=h.R.ob
 R:=h.R.rf.rdn
 nO:=h.ny ob (.inr (.inl (.inl rfl)))
 nR:=fun k hk=>h.ny k (.inl hk.rset)
 rO:=fun e=>h.R.nob e.rset
 on:=fun e=>⟨rfl,hr.on e⟩
 ct:=fun e=>by
  have:=hr.ct e
  show ∃lo,∃home Ts,Cut v.d v.nb v.fr v.bl lo home Ts/\Hc v.nb v.fr v.bl home Ts v.r.Fs (v.r.Ds++[]) lo v.r.sure/\Ts.length<=M
  rwa [List.append_nil]
 db:=hr.db
 pl:=hr.pl
 wl:=Nat.zero_le _
 lo:=hr.lo
 fit:=hr.fit
 nb:=hr.nb
 gr:=hr.gr
 fs:=hr.fs
theorem owns_take{c:Nat}(h:w.ownsRow b e 1 (.slice a n c) n xs)(hm:m<=n):w.ownsRow b e 1 (.slice a m c) m (xs.take m):=by
 obtain⟨h1,h2⟩:=h
 refine⟨by rw[List.length_take];omega,?_⟩
 rcases h2 with ⟨h2,h3⟩ | ⟨g,cap,cur,q1,q2,q3,q4,q5,q6,q7⟩
 ·subst h3
  have:m=0:=by omega
  subst this
  exact .inl ⟨h2,rfl⟩
 ·refine .inr ⟨g,cap,cur,?_,q2,q3,by omega,q5,q6,?_⟩
  ·injection q1 with e1 _ e3
   rw[e1,e3]
  ·rw[<- q7,List.take_take]
   congr 1
   omega
theorem rowsD_take(rs:List (Nat×Nat))(Ds:List (List Pu))(m:Nat):rowsD (rs.take m) (Ds.take m)=(rowsD rs Ds).take m:=by
 unfold rowsD
 rw[List.take_zipWith]
theorem Dq.gone{w5 w8:World}{ob:Nat}{v:Dv}(h:Dq Y w5 ob v')(hg:Rgn Gm M v v' way)(hr:Rl Gm M v)(hown:way.isEmpty=false->w5.ownsRow 0 60 1 v'.r.dv v'.r.Ds.length (rowsD v'.r.rs v'.r.Ds))(hdv:v'.r.dv=.slice da v'.r.Ds.length dc)(b:But (fun k=>k=v'.r.rb) w5 w8)(hs:Rs5 w8 v'.r.rb v'.nb v'.fr v'.bl v'.r.fv (.slice da v.r.Ds.length dc) v.r.sure (qPtr v'.r.q) true) :
  Ed Gm (M+1) Y w8 ob { v' with r:={ v'.r with off:=true,sure:=v.r.sure,dv:=.slice da v.r.Ds.length dc,Ds:=v.r.Ds,rs:=v'.r.rs.take v.r.Ds.length } } way:=by
 have hle:v.r.Ds.length<=v'.r.Ds.length:=by rw[hg.ds,List.length_append];omega
 have htk:v'.r.Ds.take v.r.Ds.length=v.r.Ds:=by rw[hg.ds,List.take_left]
 have hkeep:∀(k:Nat) (cur:Array Value) (e:TypeId),w5.heap[k]?=some (Obj.cells cur e (0,0))->e≠67->w8.heap[k]?=w5.heap[k]?:=fun k cur e hc n2=>b.block k (Array.getElem?_eq_some_iff.1 hc).1 (fun e2=>kind_ne hc h.R.rf.sto n2 e2)
 have hnrb:∀k,k=v'.r.rb->¬Y k:=fun k e=>h.ny k (.inl (.inl e))
 have hob:ob≠v'.r.rb:=fun e=>h.R.nob (.inl e)
 have hol:=h.R.ob
 have hsz:=b.size
 have hset:∀k,Rnset { v'.r with off:=true,sure:=v.r.sure,dv:=.slice da v.r.Ds.length dc,Ds:=v.r.Ds,rs:=v'.r.rs.take v.r.Ds.length } k->Rnset v'.r k:=fun k hk=>by
  rcases hk with hk | hk | hk | ⟨x,hx,hk⟩
  ·exact .inl hk
  ·exact .inr (.inl hk)
  ·refine .inr (.inr (.inl ?_))
   rw[hdv]
   cases da with
   | none=>exact hk
   | some a=>exact hk
  ·exact .inr (.inr (.inr ⟨x,List.mem_of_mem_take hx,hk⟩))
 refine⟨h.P.pg.keep b (fun k _ e1 e2=>hnrb k e1 e2),fun k e=>Nat.lt_of_lt_of_le (h.P.yb k e) hsz,(b.cell (p:=⟨ob,0,none⟩) hol hob).trans h.R.cells.1,(b.cell (p:=⟨ob,2,none⟩) hol hob).trans h.R.cells.2.2.1,Nat.lt_of_lt_of_le hol hsz,⟨⟨_,hs⟩,?_,h.R.rf.fsl,?_,?_,fun i x ps h1 h2=>?_⟩,h.ny ob (.inr (.inl (.inl rfl))),fun k hk=>h.ny k (.inl (hset k hk).rset),fun e=>h.R.nob (hset ob e).rset,fun e=>?_,fun _=>?_,⟨?_,fun ps hps=>?_⟩,?_,Nat.le_succ_of_le hg.wl,?_,?_,?_,?_,?_⟩
 ·refine owns_keep h.R.rf.fst (fun k e=>?_)
  obtain⟨cur,hcu⟩:=rowKind h.R.rf.fst e
  exact hkeep k cur _ hcu (by decide)
 ·show rowD w8 60 (.slice da v.r.Ds.length dc) v.r.Ds.length (rowsD (v'.r.rs.take v.r.Ds.length) v.r.Ds)
  have e1:rowsD (v'.r.rs.take v.r.Ds.length) v.r.Ds=(rowsD v'.r.rs v'.r.Ds).take v.r.Ds.length:=by
   conv=>lhs;rw[<- htk]
   rw[htk,<- rowsD_take,htk]
  rw[e1]
  cases hw:way.isEmpty with
  | true=>
   have e2:v'.r.Ds.length=v.r.Ds.length:=by rw[hg.ds,hw];simp
   have hd:=h.R.rf.don
   rw[hdv,e2]at hd
   rw[List.take_of_length_le (by rw[rowsD_length h.R.rf.rsl];omega)]
   refine hd.keep (fun k e=>?_)
   obtain⟨cur,hcu⟩:=hd.kind e
   exact hkeep k cur _ hcu (by decide)
  | false=>
   have ho:=hown hw
   rw[hdv]at ho
   refine rowD.own (owns_keep (owns_take ho hle) (fun k e=>?_))
   obtain⟨cur,hcu⟩:=rowKind (owns_take ho hle) e
   exact hkeep k cur _ hcu (by decide)
 ·show (v'.r.rs.take v.r.Ds.length).length=v.r.Ds.length
  rw[List.length_take,h.R.rf.rsl]
  omega
 ·have h1':(v'.r.rs.take v.r.Ds.length)[i]?=some x:=h1
  have h2':v.r.Ds[i]?=some ps:=h2
  have hi:=(List.getElem?_eq_some_iff.1 h2').1
  rw[List.getElem?_take_of_lt hi]at h1'
  have h3:v'.r.Ds[i]?=some ps:=by rw[hg.ds,List.getElem?_append_left hi];exact h2'
  refine owns_keep (h.R.rf.din i x ps h1' h3) (fun k e=>?_)
  obtain⟨cur,hcu⟩:=rowKind (h.R.rf.din i x ps h1' h3) e
  exact hkeep k cur _ hcu (by decide)
 ·have e':v'.d.off=false:=e
  rw[hg.doff]at e'
  cases e'
 ·obtain⟨lo,home,Ts,k1,k2,k3⟩:=hg.ct
  show ∃lo,∃home Ts,Cut v'.d v'.nb v'.fr v'.bl lo home Ts/\Hc v'.nb v'.fr v'.bl home Ts v'.r.Fs (v.r.Ds++wayL way) lo v.r.sure/\Ts.length<=M+1
  rw[hg.nb,hg.fr,hg.bl,hg.fs]
  rw[hg.ds]at k2
  exact⟨lo,home,Ts,k1,k2,k3⟩
 ·exact Nat.le_succ_of_le hr.db.1
 ·exact Nat.le_succ_of_le (hr.db.2 ps hps)
 ·obtain⟨lo,home,Ts,k1,_⟩:=hg.ct
  show v'.d.puts.length<=4 * v'.nb+64
  rw[hg.nb]
  exact k1.pl
 ·show 16<=v'.bl
  rw[hg.bl]
  exact hr.lo
 ·show v'.fr+v'.bl<=v'.nb
  rw[hg.bl,hg.fr,hg.nb]
  exact hr.fit
 ·show v'.nb<=524288
  rw[hg.nb]
  exact hr.nb
 ·show Gm=(v'.nb,v'.fr,v'.bl)
  rw[hg.bl,hg.fr,hg.nb]
  exact hr.gr
 ·show v'.r.Fs=List.replicate v'.nb (strOfNums (zeros 512))
  rw[hg.fs,hg.nb]
  exact hr.fs
def WayR (w0 w:World) (X:Nat->Prop) (wv:Value) (ways:List Pu):Prop:=(ways=[]/\wv=.slice none 0 0)\/(ways≠[]/\∃g c,wv=.slice (some ⟨g,0,none⟩) ways.length c/\w.ownsRow 0 150 2 (.slice (some ⟨g,0,none⟩) ways.length c) ways.length (puCells ways)/\w0.heap.size<=g/\¬X g)
theorem WayR.lt{ways:List Pu}(h:WayR w0 w X wv ways){g:Nat}(hg:wv.ownBlock=some g):g<w.heap.size/\w0.heap.size<=g/\¬X g:=by
 rcases h with ⟨_,rfl⟩ | ⟨_,g',c,rfl,h1,h2,h3⟩
 ·cases hg
 ·have:g'=g:=by simpa [Value.ownBlock] using hg
  subst this
  exact⟨(World.ownsRow.lt h1 g' rfl).2,h2,h3⟩
theorem WayR.go{ways:List Pu}(h:WayR w0 w X wv ways)(hb:But X w w')(hg:Gr X X' w):WayR w0 w' X' wv ways:=by
 rcases h with h | ⟨h0,g,c,rfl,h1,h2,h3⟩
 ·exact .inl h
 ·have hl:=(World.ownsRow.lt h1 g rfl).2
  refine .inr ⟨h0,g,c,rfl,owns_keep h1 (fun k e=>?_),h2,fun e=>h3 (hg g hl e)⟩
  have:g=k:=by simpa [Value.ownBlock] using e
  subst this
  exact hb.block g hl h3
def LivP (Gm:Nat×Nat×Nat) (B:Nat->Prop) (w:World) (ob M:Nat) (e:Ending) (w':World):Prop:=∃wv ways Y v,e=.returned (.tuple #[wv,.bool true])/\Ed Gm M Y w' ob v ways/\Gr B (Edset Y ob v) w/\But B w w'/\WayR w w' (Edset Y ob v) wv ways
theorem Ed.mono{M':Nat}{ob:Nat}{v:Dv}{ways:List Pu}(h:Ed Gm M Y w ob v ways)(hM:M<=M'):Ed Gm M' Y w ob v ways:={ h with
 on:=fun e=>by
  obtain⟨k0,lo,home,Ts,k1,k2,k3⟩:=h.on e
  exact⟨k0,lo,home,Ts,k1,k2,by omega⟩
 ct:=fun e=>by
  obtain⟨lo,home,Ts,k1,k2,k3⟩:=h.ct e
  exact⟨lo,home,Ts,k1,k2,by omega⟩
 db:=⟨Nat.le_trans h.db.1 hM,fun ps hps=>Nat.le_trans (h.db.2 ps hps) hM⟩
 wl:=Nat.le_trans h.wl hM }
def Lvs (Gm:Nat×Nat×Nat) (B:Nat->Prop) (w:World) (ob M:Nat) (wr:World):Prop:=∃B1 Y v,Dq Y wr ob v/\Rl Gm M v/\(∀k,B1 k ↔ Ball Y ob v k)/\v.d.off=false/\Gr B B1 w/\But B w wr
open Go.RowKit
theorem Pending_any{puts:List (Nat×List Int)}{nb:Nat}(h:Dk X w p img puts fu off nb)(hl:puts.length<=1073741824) :
  Calls Tryz.prog 55 #[.pointer (some ⟨p,0,none⟩)] w fun e w'=>∃g,e=.returned (.tuple #[.slice (some ⟨g,0,none⟩) puts.length puts.length,.int .i64 0])/\w.heap.size<=g/\Blk .i64 3 w' g (puts.map fun q=>(q.1:Int))/\Below w.heap.size w w':=by
 obtain⟨ds,gL,cL,pv,mp,rfl,h⟩:=h
 have hats:(ds.map Pw.put).map (fun q=>(q.1:Int))=atsZ ds:=by simp[atsZ,Pw.put]
 rw[hats]
 simp only[List.length_map]at hl ⊢
 obtain⟨aP,cP,rfl,_⟩:=owns_slice h.row
 have q1:=h.blk.cell 1
 simp only[List.getElem?_toArray,List.getElem?_cons_succ,List.getElem?_cons_zero]at q1
 have hla:(atsZ ds).length=ds.length:=by simp[atsZ]
 have HW:Hid (ds.length=0\/∃gP,aP=some ⟨gP,0,none⟩/\gP<w.heap.size/\∀i d,ds[i]?=some d->w.cell? ⟨gP,i * 2,none⟩=some (.int .i64 (d.at_:Int))/\w.cell? ⟨gP,i * 2+1,none⟩=some (.slice (some ⟨d.g,0,none⟩) 512 d.c)):=by
  show _\/_
  by_cases h0:ds.length=0
  ·exact .inl h0
  ·obtain⟨g,e,hg,hc⟩:=wide_cell h.row (by omega)
   exact .inr ⟨g,e,hg,fun i d hi=>⟨hc _ _ (pcs_get ds i d hi).1,hc _ _ (pcs_get ds i d hi).2⟩⟩
 have hplt:=h.blk.lt
 have hmk:=make_i64 ds.length (by omega)
 clear h
 have hB0:Hid (Blk .i64 3 (w.alloc (.cells ((zeros ds.length).map (Value.int .i64)).toArray 3)) w.heap.size (zeros ds.length)):=Blk.new w _
 have hb0:Hid (Below w.heap.size w (w.alloc (.cells ((zeros ds.length).map (Value.int .i64)).toArray 3))):=(Below.refl _ _).alloc (Nat.le_refl _) _
 have q1':(w.alloc (.cells ((zeros ds.length).map (Value.int .i64)).toArray 3)).cell? ⟨p,1,none⟩=some (.slice aP ds.length cP):=(World.cell?_alloc_past _ _ _ hplt).trans q1
 go_enter Tryz.func55,Tryz.ntmps55
 go_wp2_with fail
 refine (ask_none w).mono ?_
 rintro e w1 ⟨rfl,rfl⟩
 go_wp2_with fail
 generalize hwm:w1.alloc (.cells ((zeros ds.length).map (Value.int .i64)).toArray 3)=wm at *
 clear hwm hmk q1 q1'
 go_loopw [24] (fun i wt=>∃k:Nat,k<=ds.length/\i=.int .i64 (k:Int)/\Blk .i64 3 wt w1.heap.size ((atsZ ds).take k++List.replicate (ds.length-k) 0)/\Below w1.heap.size w1 wt) (fun i _=>ds.length-(intOf i).toNat)
 case atStart=>exact⟨0,Nat.zero_le _,rfl,by simpa [zeros] using hB0.out,hb0.out⟩
 case round=>
  clear hB0 hb0
  obtain⟨k,hk,rfl,hB,hbt⟩:=hrel
  by_cases hkn:k<ds.length
  ·obtain⟨gP,rfl,hgP,hcs⟩:=HW.out.resolve_left (by omega)
   have hd:=List.getElem?_eq_getElem hkn
   obtain⟨c0,c1⟩:=hcs k _ hd
   have r0:=(hbt.cell (p:=⟨gP,k * 2,none⟩) hgP).trans c0
   have r1:=(hbt.cell (p:=⟨gP,k * 2+1,none⟩) hgP).trans c1
   have hgD:(atsZ ds).getD k 0=(ds[k].at_:Int):=by simp[atsZ,hkn]
   have hBa:=hB.alloc (.cells #[.int .i64 (ds[k].at_:Int),.slice (some ⟨ds[k].g,0,none⟩) 512 ds[k].c] 152)
   have hlB:k<((atsZ ds).take k++List.replicate (ds.length-k) 0).length:=by simp;omega
   have cB:=hBa.cell k hlB
   have fB:=hBa.frozen k
   have hkn':(k:Int)<(ds.length:Int):=by omega
   have HBs:=hid (hBa.set k (ds[k].at_:Int))
   have Hba:=hid ((hbt.alloc hbt.size (.cells #[.int .i64 (ds[k].at_:Int),.slice (some ⟨ds[k].g,0,none⟩) 512 ds[k].c] 152)))
   have e0:(wr.alloc (.cells #[.int .i64 (ds[k].at_:Int),.slice (some ⟨ds[k].g,0,none⟩) 512 ds[k].c] 152)).cell? ⟨wr.heap.size,0,none⟩=some (.int .i64 (ds[k].at_:Int)):=cell_new rfl 0 _ rfl
   clear hcs c0 c1 hbt hB hBa hd
   go_wp2_with fail
   go_roundw
   case rel=>
    refine⟨k+1,by omega,by go_num,?_,?_⟩
    ·have:=HBs.out
     have e:=fill_step (L:=atsZ ds) (k:=k) (by omega) hla
     rw[hgD]at e
     rw[e]at this
     exact this
    ·exact Hba.out.setCell (p:=⟨w1.heap.size,k,none⟩) (Nat.le_refl _) _
   case measure=>simp[intOf];omega
  ·obtain rfl:k=ds.length:=by omega
   have HB:=hid hB
   have Hbt:=hid hbt
   clear hB hbt
   go_wp2
   go_ret2
   refine⟨w1.heap.size,rfl,Nat.le_refl _,?_,Hbt.out⟩
   have:=HB.out
   rw[Nat.sub_self,List.replicate_zero,List.append_nil,<- hla,List.take_length]at this
   exact this
theorem arePlaces_any(a:Option Addr)(n c:Nat)(w:World):Calls Tryz.prog 89 #[.slice a n c] w fun e w'=>e=.returned (.func (.func 123) #[] #[.pointer (some ⟨w.heap.size,0,none⟩)])/\w'=w.alloc (.cells #[.slice a n c] 37):=by
 go_enter Tryz.func89,Tryz.ntmps89
 go_wp2
 go_ret
 exact⟨rfl,rfl⟩
theorem ask_one{f:Nat}{cap:Array Value}{code:Int}(hf:f=123)(H:Calls Tryz.prog f (#[.pointer (some ⟨p,0,none⟩)]++cap) w fun e w'=>e=.returned (.int .i64 code)/\Below w.heap.size w w')(k0:w.cell? ⟨k,0,none⟩=some (.func (.func f) #[] cap)) :
  Calls Tryz.prog 50 #[.pointer (some ⟨p,0,none⟩),.slice (some ⟨k,0,none⟩) 1 1] w fun e w'=>e=.returned (.int .i64 code)/\Below w.heap.size w w':=by
 subst hf
 have H1:=hid H
 clear H
 go_enter Tryz.func50,Tryz.ntmps50
 by_cases hz:code=0
 ·subst hz
  go_wp2_with fail
  refine wp_loop_rounds 2 ?_
  rw[rounds_succ]
  go_wp2_with fail
  refine Calls.mono H1.out ?_
  rintro e w1 ⟨rfl,hb⟩
  have Hb:=hid hb
  clear hb
  go_wp2_with fail
  rw[rounds_succ]
  go_wp2
  go_ret
  exact⟨rfl,Hb.out⟩
 ·go_wp2_with fail
  refine wp_loop_rounds 2 ?_
  rw[rounds_succ]
  go_wp2_with fail
  refine Calls.mono H1.out ?_
  rintro e w1 ⟨rfl,hb⟩
  have Hb:=hid hb
  clear hb
  go_wp2
  go_ret
  exact⟨rfl,Hb.out⟩
theorem arePlaces1_any{c:Nat}{cap:Nat}{aP:Option Addr}{cP:Nat}(hn:n<=1073741824)(hm:m<=1073741824)(hc:w.cell? ⟨c,0,none⟩=some (.slice a m cap))(hR:RdI w.heap.size w a m ks)(hD:Dkb w p lv (.slice aP n cP) mv fu off) :
  Calls Tryz.prog 123 #[.pointer (some ⟨p,0,none⟩),.pointer (some ⟨c,0,none⟩)] w fun e w'=>e=.returned (.int .i64 (placesC n ks))/\w'=w:=by
 have q1:=hD.cell 1
 simp only[List.getElem?_toArray,List.getElem?_cons_succ,List.getElem?_cons_zero]at q1
 obtain⟨hl,hR⟩:=hR
 have HR:=hid hR
 clear hR hD
 go_enter Tryz.func123,Tryz.ntmps123
 go_wp2_with fail
 go_loopw [9,4] (fun i l wt=>∃k:Nat,k<=m/\i=.int .i64 (k:Int)/\l=.int .i64 (leastK ks k)/\(∀j,j<k->leastK ks j<=ks.getD j 0/\ks.getD j 0<(n:Int))/\wt=w) (fun i _ _=>m-(intOf i).toNat)
 case atStart=>exact⟨0,Nat.zero_le _,rfl,rfl,fun j hj=>by omega,rfl⟩
 case round=>
  obtain⟨k,hk,rfl,rfl,hg,rfl⟩:=hrel
  by_cases hkm:k<m
  ·obtain⟨b,o,rfl,hb,hcs⟩:=HR.out.resolve_left (by omega)
   have r0:=hcs k hkm
   have hkm':(k:Int)<(m:Int):=by omega
   have hg':=hid hg
   clear hcs hg
   by_cases h1:ks.getD k 0<leastK ks k
   ·have hno:placesC n ks=26:=if_neg (fun hG=>by have:=(hG k (by omega)).1;omega)
    generalize leastK ks k=L at *
    generalize ks.getD k 0=z at *
    go_wp2
    go_ret
    exact⟨by first | rfl | (rw[hno];rfl),rfl⟩
   ·by_cases h2:(n:Int)<=ks.getD k 0
    ·have hno:placesC n ks=26:=if_neg (fun hG=>by have:=(hG k (by omega)).2;omega)
     generalize leastK ks k=L at *
     generalize ks.getD k 0=z at *
     go_wp2
     go_ret
     exact⟨by first | rfl | (rw[hno];rfl),rfl⟩
    ·have hnx:leastK ks (k+1)=ks.getD k 0+1:=by unfold leastK;rw[if_neg (by omega),Nat.add_sub_cancel]
     have hgk:leastK ks k<=ks.getD k 0/\ks.getD k 0<(n:Int):=by omega
     have hlo:-9223372036854775808<=ks.getD k 0:=by
      have h3:∀j,j<=k->0<=leastK ks j:=by
       intro j
       induction j with
       | zero=>intro _;simp[leastK]
       | succ j ih=>
        intro hj
        have:=(hg'.out j (by omega)).1
        have:=ih (by omega)
        unfold leastK
        rw[if_neg (by omega),Nat.add_sub_cancel]
        omega
      have:=h3 k (Nat.le_refl _)
      omega
     have Hgk:=hid hgk
     have Hnx:=hid hnx
     clear hgk hnx
     generalize hz:ks.getD k 0=z at *
     generalize hL:leastK ks k=L at *
     go_wp2_with fail
     go_roundw
     case rel=>
      refine⟨k+1,by omega,by go_num,by rw[Hnx.out],fun j hj=>?_,by first | rfl | trivial⟩
      by_cases e:j=k
      ·subst e;rw[hz,hL];exact Hgk.out
      ·exact hg'.out j (by omega)
     case measure=>simp[intOf];omega
  ·obtain rfl:k=m:=by omega
   have hyes:placesC n ks=0:=if_pos (fun i hi=>hg i (by omega))
   clear hg
   generalize leastK ks k=L at *
   go_wp2
   go_ret
   exact⟨by first | rfl | (rw[hyes];rfl),rfl⟩
theorem Crash_any{puts:List (Nat×List Int)}{nb:Nat}(h:Dk X w p img puts fu off nb)(hl:puts.length<=1073741824)(a:Option Addr)(m cap:Nat)(ks:List Int)(hm:m<=1073741824)(hR:RdI w.heap.size w a m ks) :
  Calls Tryz.prog 56 #[.pointer (some ⟨p,0,none⟩),.slice a m cap] w fun e w'=>Below w.heap.size w w' /\
   ((placesC puts.length ks≠0/\e=.returned (.tuple #[.slice none 0 0,.int .i64 26])) \/
   (placesC puts.length ks=0/\∃g c,e=.returned (.tuple #[.slice (some ⟨g,0,none⟩) img.length c,.int .i64 0])/\w.heap.size<=g/\Own w' g img.length c (crashZ img puts ks)/\Pl.isB (crashZ img puts ks))):=by
 obtain⟨ds,gL,cL,pv,mp,rfl,h⟩:=h
 obtain⟨aP,cP,rfl,_⟩:=owns_slice h.row
 have hlen:=h.own.len
 have hhi:=h.hi
 simp only[List.length_map]at hl ⊢
 have HI:=hid (arePlaces_any a m cap w)
 obtain⟨w2,hw2⟩:∃w2,w2=(w.alloc (.cells #[.slice a m cap] 37)).alloc (.cells #[.func (.func 123) #[] #[.pointer (some ⟨w.heap.size,0,none⟩)]] 108):=⟨_,rfl⟩
 have b2:Below w.heap.size w w2:=by rw[hw2];exact ((Below.refl _ _).alloc (Nat.le_refl _) _).alloc (by simp) _
 have z1:(w.alloc (.cells #[.slice a m cap] 37)).heap.size=w.heap.size+1:=by simp
 have hc:w2.cell? ⟨w.heap.size,0,none⟩=some (.slice a m cap):=by
  rw[hw2,World.cell?_alloc_past _ _ _ (by simp)]
  exact cell_new rfl 0 _ rfl
 have k0:w2.cell? ⟨w.heap.size+1,0,none⟩=some (.func (.func 123) #[] #[.pointer (some ⟨w.heap.size,0,none⟩)]):=by rw[hw2];exact cell_new z1 0 _ rfl
 have hR2:RdI w2.heap.size w2 a m ks:=by
  have:=hR.below b2
  obtain⟨r1,r2⟩:=this
  refine⟨r1,?_⟩
  rcases r2 with r2 | ⟨b,o,r3,r4,r5⟩
  ·exact .inl r2
  ·exact .inr ⟨b,o,r3,Nat.lt_of_lt_of_le r4 b2.size,r5⟩
 have h2:=h.keep (w':=w2) (fun x _ hx=>b2.block x hx)
 have HT:Calls Tryz.prog 123 (#[.pointer (some ⟨p,0,none⟩)]++#[.pointer (some ⟨w.heap.size,0,none⟩)]) w2 fun e w'=>e=.returned (.int .i64 (placesC ds.length ks))/\Below w2.heap.size w2 w':=(arePlaces1_any hl hm hc hR2 h2.blk).mono (fun e w' ⟨h1,h2⟩=>⟨h1,h2 ▸ Below.refl _ _⟩)
 have HA:=hid (ask_one (f:=123) (cap:=#[.pointer (some ⟨w.heap.size,0,none⟩)]) (k:=w.heap.size+1) rfl HT k0)
 have H2:=hid h2
 have B2:=hid b2
 have HR:=hid hR
 clear k0 hc b2 HT h h2 hR2 hR z1
 go_enter Tryz.func56,Tryz.ntmps56
 go_wp2_with fail
 refine Calls.mono HI.out ?_
 rintro e w1 ⟨rfl,rfl⟩
 go_wp2_with fail
 rw[<- hw2]
 refine Calls.mono HA.out ?_
 rintro e w3 ⟨rfl,hb3⟩
 have B3:=hid (B2.out.trans (hb3.mono B2.out.size))
 have h3:=H2.out.keep (w':=w3) (fun x _ hx=>hb3.block x hx)
 have H3:=hid h3
 have q0:=h3.blk.cell 0
 simp only[List.getElem?_toArray,List.getElem?_cons_zero]at q0
 have HCl:=hid (Clone_any ⟨gL,0,none⟩ (512 * nb) cL img w3 (by omega) (h3.own.rd h3.isb))
 clear hw2 HA HI hb3 H2 B2 h3
 by_cases hz:placesC ds.length ks=0
 ·simp only[hz]
  go_wp2_with fail
  refine Calls.mono HCl.out ?_
  rintro e w5 ⟨g,cp,rfl,hg,hO,hb5⟩
  have HO:=hid hO
  have Hb5:=hid hb5
  have hgw:w.heap.size<=g:=Nat.le_trans B3.out.size hg
  have hg3:w3.heap.size<=g:=hg
  clear hO hb5 hg HCl q0
  go_wp2_with fail
  go_loopw [25] (fun i wt=>∃k:Nat,k<=m/\i=.int .i64 (k:Int)/\Own wt g (512 * nb) cp ((ks.take k).foldl (layP (ds.map Pw.put)) img)/\Pl.isB ((ks.take k).foldl (layP (ds.map Pw.put)) img)/\Below w3.heap.size w3 wt) (fun i _=>m-(intOf i).toNat)
  case atStart=>exact⟨0,Nat.zero_le _,rfl,by simpa using HO.out,by simpa using H3.out.isb,Hb5.out⟩
  case round=>
   clear HO Hb5
   obtain⟨k,hk,rfl,hO,hIB,hbt⟩:=hrel
   have hkl:=HR.out.1
   by_cases hkm:k<m
   ·obtain⟨b,o,rfl,hb,hcs⟩:=HR.out.2.resolve_left (by omega)
    have hG:GoodK ds.length ks:=by
     by_cases hG:GoodK ds.length ks
     ·exact hG
     ·unfold placesC at hz;rw[if_neg hG]at hz;omega
    obtain⟨j,hj⟩:∃j:Nat,ks.getD k 0=(j:Int):=⟨(ks.getD k 0).toNat,by have:=good_lo hG k (by omega);omega⟩
    have hjn:j<ds.length:=by have:=(hG k (by omega)).2;omega
    have hd:ds[j]?=some ds[j]:=List.getElem?_eq_getElem hjn
    have h4:=H3.out.keep (w':=wr) (fun x _ hx=>hbt.block x hx)
    obtain⟨gP,rfl,hgP,hpc⟩:=wide_cell h4.row (by omega)
    have r1:=hpc _ _ (pcs_get ds j _ hd).1
    have r2:=hpc _ _ (pcs_get ds j _ hd).2
    have q1:=h4.blk.cell 1
    simp only[List.getElem?_toArray,List.getElem?_cons_succ,List.getElem?_cons_zero]at q1
    have r0:=((B3.out.trans (hbt.mono B3.out.size)).cell (p:=⟨b,o+k,none⟩) hb).trans (hcs k hkm)
    rw[hj]at r0
    have hdd:=h4.dat ds[j] (List.getElem_mem hjn)
    have HL:=hid (lay_any hO ds[j].at_ ⟨ds[j].g,0,none⟩ ds[j].c ds[j].data (hdd.1.rd hdd.2.1) (by have:=hdd.2.2.2.2;omega) (by omega))
    have hkm':(k:Int)<(m:Int):=by omega
    have hjn':(j:Int)<(ds.length:Int):=by omega
    have hst:(ks.take (k+1)).foldl (layP (ds.map Pw.put)) img=splice ((ks.take k).foldl (layP (ds.map Pw.put)) img) (ds[j].at_ * 512) ds[j].data:=by
     rw[fold_snoc _ _ _ (by omega:k<ks.length)]
     have e:ks[k]=(j:Int):=by rw[<- hj];simp[show k<ks.length by omega]
     rw[e]
     unfold layP
     simp[hjn,Pw.put]
    have HS:=hid (And.intro hst (And.intro hIB (And.intro hdd.2.1 hbt)))
    clear hcs hO hIB hbt h4 hpc hdd hst hG hd hj
    go_wp2_with fail
    refine Calls.mono HL.out ?_
    rintro e w6 ⟨rfl,hO6,hB6⟩
    have HO6:=hid hO6
    have HB6:=hid hB6
    clear hO6 hB6 HL r0 r1 r2 q1
    go_wp2_with fail
    go_roundw
    case rel=>
     refine⟨k+1,by omega,by go_num,by rw[HS.out.1];exact HO6.out,by rw[HS.out.1];exact isB_splice HS.out.2.1 HS.out.2.2.1 _,HS.out.2.2.2.trans (HB6.out.below HS.out.2.2.2.size (fun x hx e=>by omega))⟩
    case measure=>simp[intOf];omega
   ·obtain rfl:k=m:=by omega
    have HO:=hid hO
    have Hbt:=hid hbt
    have HIB:=hid hIB
    clear hO hbt hIB
    go_wp2
    go_ret2
    have hfull:(ks.take k).foldl (layP (ds.map Pw.put)) img=crashZ img (ds.map Pw.put) ks:=by rw[<- hkl,List.take_length];rfl
    have hIB:=HIB.out
    have hO:=HO.out
    rw[hfull]at hIB hO
    refine⟨B3.out.trans (Hbt.out.mono B3.out.size),?_⟩
    rw[hlen]
    first
     | exact .inr ⟨rfl,g,cp,rfl,hgw,hO,hIB⟩
     | exact .inr ⟨by assumption,g,cp,rfl,hgw,hO,hIB⟩
     | exact⟨g,cp,rfl,hgw,hO,hIB⟩
 ·have hz26:placesC ds.length ks=26:=by
   unfold placesC at hz ⊢
   split at hz
   ·exact absurd rfl hz
   ·rename_i h;rw[if_neg h]
  go_wp2
  go_ret2
  rw[hz26]
  exact⟨B3.out,.inl ⟨by omega,rfl⟩⟩
end Go.Proofs.YthfojpcibnfmgaaGreat
