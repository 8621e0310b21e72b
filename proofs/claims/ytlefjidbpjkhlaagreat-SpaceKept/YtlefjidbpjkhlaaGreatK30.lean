import Derived.Test.YtlefjidbpjkhlaaGreatK29
import Derived.Test.YtlefjidbpjkhlaaGreatK21
import Derived.Test.YtlefjidbpjkhlaaGreatK11
import Derived.Laws.Rows
import Derived.Laws.ResultCell
import Derived.Laws.Tables
set_option maxRecDepth 100000
set_option maxHeartbeats 16000000
namespace Go.Proofs.YtlefjidbpjkhlaaGreat
variable {K N f n r t x y:Nat}
variable {X Y:Nat->Prop}
variable {w w':World}
variable {C:Nat->List Int}
variable {L:Nat->Option (List Int)}
variable {Ms:List (Nat->Option (List Int))}
variable {PO:Ending->World->Prop}
open Go.RowKit Go.Deep
structure Cf where
 j:Nat
 c:Nat
 p:Nat
 st:Nat
 nb:Nat
def Idl (Y:Nat->Prop) (w:World) (F:Cf) (K N:Nat) (C:Nat->List Int):Prop :=
 ∃d s home Ts,StA Y w F.j F.c F.p F.st F.nb K 0 64 d s/\d.fu=-1/\On d s F.nb 0 64 0 home Ts/\Ts.length<=N/\(∀y,64<=y->y<F.nb->contT home Ts Ts.length y=C y)/\(∀k,Y k->k<w.heap.size)/\64<=F.nb/\F.nb<=524288
def Opn (Y:Nat->Prop) (w:World) (F:Cf) (K N:Nat) (C:Nat->List Int) (t:Nat) (L:Nat->Option (List Int)) (Ms:List (Nat->Option (List Int))) (n:Nat):Prop :=
 ∃d s home Ts q,q.t=t/\StO Y w F.j F.c F.p F.st F.nb K 0 64 d s (some q)/\d.fu=-1/\On d s F.nb 0 64 0 home Ts/\Ts.length<=N/\(∀y,64<=y->y<F.nb->contT home Ts Ts.length y=C y)/\(∀k,Y k->k<w.heap.size)/\64<=F.nb/\F.nb<=524288/\LofA q.a q.val=L/\q.ms.map (fun m=>LofA m.2 q.val)=Ms/\q.n+q.ss.length<=n
theorem home64{nb:Nat}(h1:64<=y)(h2:y<nb):homeC nb (0:Nat) (64:Nat) (y:Int)=0:=by
 unfold homeC
 rw[if_neg]
 omega
theorem homeB64{nb:Nat}(h1:64<=y)(h2:y<nb):HomeB nb 0 64 y:=⟨h2,by omega⟩
theorem Idl.keep{F:Cf}(h:Idl Y w F K N C)(hb:But X w w')(hX:∀k,k<w.heap.size->X k->Y k->False):Idl Y w' F K N C:=by
 obtain⟨d,s,home,Ts,h1,h2,h3,h4,h5,h6,h7,h8⟩:=h
 exact⟨d,s,home,Ts,h1.keep2 hb hX,h2,h3,h4,h5,fun k q=>Nat.lt_of_lt_of_le (h6 k q) hb.size,h7,h8⟩
theorem Opn.keep{F:Cf}(h:Opn Y w F K N C t L Ms n)(hb:But X w w')(hX:∀k,k<w.heap.size->X k->Y k->False):Opn Y w' F K N C t L Ms n:=by
 obtain⟨d,s,home,Ts,q,h0,h1,h2,h3,h4,h5,h6,h7,h8,h9⟩:=h
 exact⟨d,s,home,Ts,q,h0,h1.keep hb hX,h2,h3,h4,h5,fun k e=>Nat.lt_of_lt_of_le (h6 k e) hb.size,h7,h8,h9⟩
theorem Idl.below{F:Cf}(h:Idl Y w F K N C)(hb:Below w.heap.size w w'):Idl Y w' F K N C:=h.keep (X:=fun _=>False) (But.of_below hb) (fun _ _ q _=>q)
theorem Opn.below{F:Cf}(h:Opn Y w F K N C t L Ms n)(hb:Below w.heap.size w w'):Opn Y w' F K N C t L Ms n:=h.keep (X:=fun _=>False) (But.of_below hb) (fun _ _ q _=>q)
theorem Idl.lt{F:Cf}(h:Idl Y w F K N C):∀k,Y k->k<w.heap.size:=h.elim fun _ h=>h.elim fun _ h=>h.elim fun _ h=>h.elim fun _ h=>h.2.2.2.2.2.1
theorem Opn.lt{F:Cf}(h:Opn Y w F K N C t L Ms n):∀k,Y k->k<w.heap.size:=by
 obtain⟨d,s,home,Ts,q,h0,h1,h2,h3,h4,h5,h6,h7,h8,h9⟩:=h
 exact h6
theorem Opn.yst{F:Cf}(h:Opn Y w F K N C t L Ms n):Y F.st/\Y t/\t<w.heap.size:=by
 obtain⟨d,s,home,Ts,q,rfl,⟨Z,Zw,sv,mv,q1,q2,q3,q4,q5,q6,q8,q9,q10⟩,_⟩:=h
 exact⟨q10.2.2,q9.2.2,q3.lt⟩
theorem Idl.begin{F:Cf}(h:Idl Y w F K N C) :
  Calls Tryz.prog 9 #[.pointer (some ⟨F.st,0,none⟩)] w fun e w'=>∃t Y',e=.returned (.tuple #[.pointer (some ⟨t,0,none⟩),.int .i64 0])/\Opn Y' w' F K N C t (fun _=>none) [] 0/\w.heap.size<=t/\Gr Y Y' w/\But Y w w':=by
 obtain⟨d,s,home,Ts,h1,h2,h3,h4,h5,h6,h7,h8⟩:=h
 refine Calls.mono (StO.begin (o:=none) h1) ?_
 rintro e w' ⟨tv,Y',o',rfl,r1,r2,r3,r4,r5,r6⟩
 have hz:bgC d.off (none:Option OT).isSome=0:=by simp[bgC,h3.on]
 obtain⟨_,t,x,m,rfl,rfl,r7⟩:=r3 hz
 rw[hz]
 exact⟨t,Y',rfl,⟨d,s,home,Ts,_,rfl,r1,h2,h3,h4,h5,r4,h7,h8,rfl,rfl,Nat.zero_le _⟩,r7,r5,r6⟩
theorem Opn.read{F:Cf}(h:Opn Y w F K N C t L Ms n)(hK:K<4611686018427387904)(y:Nat)(hy1:64<=y)(hy2:y<F.nb) :
  Calls Tryz.prog 47 #[.pointer (some ⟨t,0,none⟩),.int .i64 (y:Int)] w fun e w'=>∃g cp Y',e=.returned (.tuple #[.slice (some ⟨g,0,none⟩) 512 cp,.int .i64 0])/\Opn Y' w' F (K+1) N C t L Ms n/\w.heap.size<=g/\Own w' g 512 cp ((L y).getD (C y))/\Pl.isB ((L y).getD (C y))/\¬Y' g/\Gr Y Y' w/\But Y w w':=by
 obtain⟨d,s,home,Ts,q,rfl,h1,h2,h3,h4,h5,h6,h7,h8,rfl,rfl,h11⟩:=h
 have hpl:=h3.puts (by decide) (by omega) h8
 obtain⟨Z,Zw,sv,mv,q1,q2,q3,q4,q5,q6,q8,q9,q10⟩:=h1
 obtain⟨D,hWq⟩:=q2.wq
 refine Calls.mono (tread_home q1 hWq (by omega) h3.on (by omega) hK h8 y hy2 (home64 hy1 hy2) q3 q4) ?_
 rintro e w' ⟨g,cp,rfl,r1,r2,r3,⟨Z',r4,r5,r6⟩,r7⟩
 have hs:=r7.size
 have ht:=q3.lt
 have hst:=q4.lt
 rw[h3.read (homeB64 hy1 hy2),h5 y hy1 hy2]at r2 r3
 exact⟨g,cp,growZ Y Z' w w',rfl,⟨d,s,home,Ts,q,rfl,⟨fun k=>Z' k/\k<w'.heap.size,fun k=>Zw k/\k<w.heap.size,sv,mv,r4.cut,q2.cut.but r7 (fun k _ e=>(q6 k e.1).2),q3.keep (r7.block _ ht q9.1),q4.keep (r7.block _ hst q10.1),fun k e=>growZ.of q5 r5 e.1 e.2,fun k e=>⟨.inl ⟨(q6 k e.1).1,e.2⟩,fun e2=>(q6 k e.1).2 (r5 k e.2 e2.1)⟩,q8,⟨fun e=>q9.1 (r5 _ ht e.1),fun e=>q9.2.1 e.1,.inl ⟨q9.2.2,ht⟩⟩,⟨fun e=>q10.1 (r5 _ hst e.1),fun e=>q10.2.1 e.1,.inl ⟨q10.2.2,hst⟩⟩⟩,h2,h3,h4,h5,fun k q=>by rcases q with q | q <;> omega,h7,h8,rfl,rfl,h11⟩,r1,r2,r3,fun q=>Or.elim q (fun e=>absurd e.2 (by omega)) (fun e=>r6 e.1),growZ.gr _ _ _ _,r7.mono (fun k _ e=>q5 k e)⟩
theorem Opn.write{F:Cf}(h:Opn Y w F K N C t L Ms n)(hK:K<4611686018427387904)(hn:n<=1073741823)(y:Nat)(hy1:64<=y)(hy2:y<F.nb)(xa:Option Addr)(xc:Nat)(zs:List Int)(hR:RdN Y w xa 512 zs) :
  Calls Tryz.prog 52 #[.pointer (some ⟨t,0,none⟩),.int .i64 (y:Int),.slice xa 512 xc] w fun e w'=>∃Y',e=.returned (.int .i64 0)/\Opn Y' w' F (K+1) N C t (putL L y zs) Ms (n+2)/\Gr Y Y' w/\But Y w w':=by
 obtain⟨d,s,home,Ts,q,rfl,h1,h2,h3,h4,h5,h6,h7,h8,rfl,rfl,h11⟩:=h
 have hpl:=h3.puts (by decide) (by omega) h8
 refine Calls.mono (h1.write (by omega) (by omega) hK h8 (fun q' e=>by cases e;omega) (who:=some true) ⟨q,rfl,rfl⟩ (y:Int) (by omega) (by omega) xa 512 xc zs hR) ?_
 rintro e w' ⟨Y',o',rfl,r1,r2,r3,r4,r5,r6⟩
 have hz:wrC F.nb 0 64 d.off (some true) (y:Int) 512=0:=by
  unfold wrC
  rw[if_neg (by simp[askW,h3.on]),if_neg (by rw[home64 hy1 hy2];decide),if_neg (by decide)]
 obtain⟨q',a',ss',val',e1,rfl,e3,e4,e5⟩:=r3 hz
 cases e1
 rw[hz]
 refine⟨Y',rfl,⟨d,s,home,Ts,{ q with n:=q.n+1,a:=a',ss:=ss',val:=val' },rfl,r1,h2,h3,h4,h5,r4,h7,h8,by simpa using e3,?_,by simp only;omega⟩,r5,r6⟩
 refine List.map_congr_left (fun m hm=>?_)
 obtain⟨i,hi⟩:=List.mem_iff_getElem?.1 hm
 exact e4 i m.1 m.2 hi
theorem Opn.sread{F:Cf}(h:Opn Y w F K N C t L Ms n)(hK:K<4611686018427387904)(y:Nat)(hy1:64<=y)(hy2:y<F.nb) :
  Calls Tryz.prog 30 #[.pointer (some ⟨F.st,0,none⟩),.int .i64 (y:Int)] w fun e w'=>∃g cp Y',e=.returned (.tuple #[.slice (some ⟨g,0,none⟩) 512 cp,.int .i64 0])/\Opn Y' w' F (K+1) N C t L Ms n/\w.heap.size<=g/\Own w' g 512 cp (C y)/\Pl.isB (C y)/\¬Y' g/\Gr Y Y' w/\But Y w w':=by
 obtain⟨d,s,home,Ts,q,rfl,h1,h2,h3,h4,h5,h6,h7,h8,rfl,rfl,h11⟩:=h
 have hpl:=h3.puts (by decide) (by omega) h8
 obtain⟨Z0,_,_,hS,_⟩:=h1.jq
 obtain⟨Z,hJ,hcl⟩:=h1.open2
 refine Calls.mono (sread_home hJ (by omega) h3.on (by omega) hK y hy2 (home64 hy1 hy2) hS) ?_
 rintro e w' ⟨g,cp,rfl,r1,r2,r3,⟨Z',r4,r5,r6⟩,r7⟩
 obtain⟨Y',q1,q2,q3,q4,q5⟩:=hcl w' _ _ _ Z' r4 r5 r7
 rw[h3.read (homeB64 hy1 hy2),h5 y hy1 hy2]at r2 r3
 exact⟨g,cp,Y',rfl,⟨d,s,home,Ts,q,rfl,q1,h2,h3,h4,h5,q3,h7,h8,rfl,rfl,h11⟩,r1,r2,r3,q2 g r1 r6,q4,q5⟩
theorem Idl.sread{F:Cf}(h:Idl Y w F K N C)(hK:K<4611686018427387904)(y:Nat)(hy1:64<=y)(hy2:y<F.nb) :
  Calls Tryz.prog 30 #[.pointer (some ⟨F.st,0,none⟩),.int .i64 (y:Int)] w fun e w'=>∃g cp Y',e=.returned (.tuple #[.slice (some ⟨g,0,none⟩) 512 cp,.int .i64 0])/\Idl Y' w' F (K+1) N C/\w.heap.size<=g/\Own w' g 512 cp (C y)/\Pl.isB (C y)/\¬Y' g/\Gr Y Y' w/\But Y w w':=by
 obtain⟨d,s,home,Ts,h1,h2,h3,h4,h5,h6,h7,h8⟩:=h
 have hpl:=h3.puts (by decide) (by omega) h8
 have h1':StO Y w F.j F.c F.p F.st F.nb K 0 64 d s none:=h1
 obtain⟨Z0,_,_,hS,_⟩:=h1'.jq
 obtain⟨Z,hJ,hcl⟩:=h1'.open2
 refine Calls.mono (sread_home hJ (by omega) h3.on (by omega) hK y hy2 (home64 hy1 hy2) hS) ?_
 rintro e w' ⟨g,cp,rfl,r1,r2,r3,⟨Z',r4,r5,r6⟩,r7⟩
 obtain⟨Y',q1,q2,q3,q4,q5⟩:=hcl w' _ _ _ Z' r4 r5 r7
 rw[h3.read (homeB64 hy1 hy2),h5 y hy1 hy2]at r2 r3
 exact⟨g,cp,Y',rfl,⟨d,s,home,Ts,q1,h2,h3,h4,h5,q3,h7,h8⟩,r1,r2,r3,q2 g r1 r6,q4,q5⟩
theorem Opn.owns{F:Cf}(h:Opn Y w F K N C t L Ms n) :
  Calls Tryz.prog 93 #[.pointer (some ⟨F.st,0,none⟩),.pointer (some ⟨t,0,none⟩)] w fun e w'=>e=.returned (.int .i64 0)/\Below w.heap.size w w':=by
 obtain⟨d,s,home,Ts,q,rfl,h1,h2,h3,h4,h5,h6,h7,h8,rfl,rfl,h11⟩:=h
 refine Calls.mono (h1.owns (who:=some true) ⟨q,rfl,rfl⟩) ?_
 rintro e w' ⟨rfl,b⟩
 exact⟨by simp[askW,h3.on],b⟩
theorem Opn.commit{F:Cf}(h:Opn Y w F K N C t L Ms n)(hN:N<1099511627776)(hk:(homeKeys F.nb L).length<=28) :
  Calls Tryz.prog 13 #[.pointer (some ⟨t,0,none⟩)] w fun e w'=>∃Y',e=.returned (.int .i64 0)/\Idl Y' w' F K (N+1) (fun y=>(L y).getD (C y))/\Txb w' t F.j .nilIface F.st (.pointer none)/\¬Y' t/\Gr Y Y' w/\But Y w w':=by
 obtain⟨d,s,home,Ts,q,rfl,h1,h2,h3,h4,h5,h6,h7,h8,rfl,rfl,h11⟩:=h
 have hm:∀y,y∈homeKeys F.nb (LofA q.a q.val)->homeC F.nb (0:Nat) (64:Nat) (y:Int)=0:=fun y hy=>by
  obtain⟨Z,Zw,sv,mv,q1,q2,q3,q4,q5,q6,q8,q9,q10⟩:=h1
  obtain⟨_,hy2⟩:=mem_homeKeys.1 hy
  unfold LofA at hy2
  cases hr:q.a y with
  | none=>rw[hr]at hy2;simp at hy2
  | some r=>exact (q2.dat y r (.inl hr)).2.2.1.2
 refine Calls.mono (StM.commit2 h1 h3 h2 (by decide) (by omega) h8 (by omega) (by omega) hm) ?_
 rintro e w' ⟨Y',d',s',Ts',rfl,r1,r2,r3,r4,r5,r6,r7,r8,r9,r10⟩
 exact⟨Y',rfl,⟨d',s',home,Ts',r1,r2,r3,by omega,fun y a b=>by rw[r5 y b,h5 y a b],r8,h7,h8⟩,r6,r7,r9,r10⟩
theorem Opn.abort{F:Cf}(h:Opn Y w F K N C t L Ms n) :
  Calls Tryz.prog 14 #[.pointer (some ⟨t,0,none⟩)] w fun e w'=>∃Y',e=.returned (.int .i64 0)/\Idl Y' w' F K N C/\Txb w' t F.j .nilIface F.st (.pointer none)/\¬Y' t/\Gr Y Y' w/\But Y w w':=by
 obtain⟨d,s,home,Ts,q,rfl,h1,h2,h3,h4,h5,h6,h7,h8,rfl,rfl,h11⟩:=h
 have hz:askW (some true) d.off=0:=by simp[askW,h3.on]
 refine Calls.mono (h1.abort (who:=some true) ⟨q,rfl,rfl⟩) ?_
 rintro e w' ⟨Y',o',rfl,r1,r2,r3,r4,r5,r6⟩
 obtain⟨q',e1,rfl,e3,e4⟩:=r3 hz
 cases e1
 exact⟨Y',by rw[hz],⟨d,s,home,Ts,r1,h2,h3,h4,h5,r4,h7,h8⟩,e3,e4,r5,r6⟩
open Go.RowKit Go.Deep
theorem readSn(t:Nat)(w:World):Sem.run Tryz.prog (method 414 101 (.agg #[.pointer (some ⟨t,0,none⟩)]) "Read") w=.ok (47,.pointer (some ⟨t,0,none⟩)) w:=by kernel_rfl
theorem readCm(st:Nat)(b:Bool)(w:World):Sem.run Tryz.prog (method 414 164 (.agg #[.pointer (some ⟨st,0,none⟩),.bool b]) "Read") w=.ok (30,.pointer (some ⟨st,0,none⟩)) w:=by kernel_rfl
theorem ta_com(t:Nat)(w:World):Sem.run Tryz.prog (Instr.typeAssert (.iface 101 (.agg #[.pointer (some ⟨t,0,none⟩)])) 200 164 true) w=.ok (.tuple #[.agg #[.pointer none,.bool false],.bool false]) w:=by kernel_rfl
theorem ta_seen(t:Nat)(w:World):Sem.run Tryz.prog (Instr.typeAssert (.iface 101 (.agg #[.pointer (some ⟨t,0,none⟩)])) 200 101 true) w=.ok (.tuple #[.agg #[.pointer (some ⟨t,0,none⟩)],.bool true]) w:=by kernel_rfl
theorem ta_comC(st:Nat)(b:Bool)(w:World):Sem.run Tryz.prog (Instr.typeAssert (.iface 164 (.agg #[.pointer (some ⟨st,0,none⟩),.bool b])) 200 164 true) w=.ok (.tuple #[.agg #[.pointer (some ⟨st,0,none⟩),.bool b],.bool true]) w:=by kernel_rfl
def PgP (Y:Nat->Prop) (w:World) (r m:Nat) (zs:List Int) (X:(Nat->Prop)->World->Prop) (e:Ending) (w':World):Prop :=
 ∃Y',X Y' w'/\(isPg r m zs=true->∃g cp,e=.returned (.tuple #[.slice (some ⟨g,0,none⟩) 512 cp,.int .i64 0])/\w.heap.size<=g/\Own w' g 512 cp zs/\Pl.isB zs/\¬Y' g)/\(isPg r m zs=false->e=.returned (.tuple #[.slice none 0 0,.int .i64 65]))/\Gr Y Y' w/\But Y w w'
theorem Opn.pageS{F:Cf}(h:Opn Y w F K N C t L Ms n)(hK:K<4611686018427387904)(f r m:Nat)(h1:r<=262144)(h2:m<=1024)(hy1:64<=f+m)(hy2:f+m<F.nb) :
  Calls Tryz.prog 87 #[.agg #[.int .i64 (f:Int),.int .i64 (r:Int)],.iface 101 (.agg #[.pointer (some ⟨t,0,none⟩)]),.int .i64 (m:Int)] w (PgP Y w r m ((L (f+m)).getD (C (f+m))) (fun Y' w'=>Opn Y' w' F (K+1) N C t L Ms n)):=by
 obtain⟨zs,hzs⟩:∃zs,zs=(L (f+m)).getD (C (f+m)):=⟨_,rfl⟩
 rw[<- hzs]
 refine poz fun PO hPO=>?_
 obtain⟨w0,hw0⟩:∃w0,w0=w.alloc (.cells #[.int .i64 (f:Int),.int .i64 (r:Int)] 92):=⟨_,rfl⟩
 have z0:w0.heap.size=w.heap.size+1:=by rw[hw0];simp
 have b0:Below w.heap.size w w0:=by rw[hw0];exact (Below.refl _ _).alloc (Nat.le_refl _) _
 have hblk:w0.heap[w.heap.size]?=some (.cells #[.int .i64 (f:Int),.int .i64 (r:Int)] 92 (0,0)):=by rw[hw0];exact Array.getElem?_push_size
 have hlt:=h.lt
 have hnb:F.nb<=524288:=by
  obtain⟨_,_,_,_,_,_,_,_,_,_,_,_,_,q,_⟩:=h
  exact q
 have HR:Hid (Calls Tryz.prog 47 #[.pointer (some ⟨t,0,none⟩),.int .i64 ((f:Int)+(m:Int))] w0 fun e w2=>∃G cap,e=.returned (.tuple #[.slice (some ⟨G,0,none⟩) 512 cap,.int .i64 0])/\(w2.cell? ⟨w.heap.size,0,none⟩=some (.int .i64 (f:Int))/\w2.cell? ⟨w.heap.size,1,none⟩=some (.int .i64 (r:Int)))/\Calls Tryz.prog 140 #[.agg #[.int .i64 (f:Int),.int .i64 (r:Int)],.slice (some ⟨G,0,none⟩) 512 cap,.int .i64 (m:Int)] w2 fun e w3=>e=.returned (.bool (isPg r m zs))/\∀w4,Below w3.heap.size w3 w4->(isPg r m zs=true->PO (.returned (.tuple #[.slice (some ⟨G,0,none⟩) 512 cap,.int .i64 0])) w4)/\(isPg r m zs=false->PO (.returned (.tuple #[.slice none 0 0,.int .i64 65])) w4)):=by
  rw[show ((f:Int)+(m:Int))=((f+m:Nat):Int) by omega]
  refine Calls.mono ((h.below b0).read hK (f+m) hy1 hy2) ?_
  rintro e w2 ⟨g,cp,Y',rfl,r1,r2,r3,r4,r5,r6,r7⟩
  rw[<- hzs]at r3 r4
  have hs2:=r7.size
  have hb2:=(r7.block w.heap.size (by omega) (fun q=>by have:=hlt _ q;omega)).trans hblk
  refine⟨g,cp,rfl,⟨by simp[World.cell?,hb2],by simp[World.cell?,hb2]⟩,Calls.mono (isPage_any (f:Int) h1 h2 r3 r4) ?_⟩
  rintro e w3 ⟨rfl,b3⟩
  refine⟨rfl,fun w4 b4=>?_⟩
  have b24:Below w2.heap.size w2 w4:=b3.trans (b4.mono b3.size)
  have gg:Gr Y Y' w:=fun k hk q=>r6 k (by omega) q
  have bb:But Y w w4:=((But.of_below b0 (X:=Y)).trans r7).comp (But.of_below b24 (X:=fun _=>False)) (fun _ _ q=>q.elim)
  rw[hPO]
  exact⟨fun q=>⟨Y',r1.below b24,fun _=>⟨g,cp,rfl,by omega,r3.keep (b24.block g r3.lt),r4,r5⟩,fun q'=>(by rw[q]at q';cases q'),gg,bb⟩,fun q=>⟨Y',r1.below b24,fun q'=>(by rw[q]at q';cases q'),fun _=>rfl,gg,bb⟩⟩
 have HW:=hid hw0
 have k0:w0.cell? ⟨w.heap.size,0,none⟩=some (.int .i64 (f:Int)):=by simp[World.cell?,hblk]
 clear hw0 b0 z0 hblk hPO h hzs hlt
 go_enter Tryz.func87,Tryz.ntmps87
 go_wp2_with (rw[readSn])
 rw[<- HW.out]
 refine Calls.mono HR.out ?_
 rintro e w2 ⟨G,cap,rfl,⟨c0,c1⟩,h3⟩
 have H3:=hid h3
 clear h3 HR k0 HW
 go_wp2_with fail
 refine Calls.mono H3.out ?_
 rintro e w3 ⟨rfl,h4⟩
 have H4:=hid h4
 clear h4 H3 c0 c1
 have ta1:=fun u=>ta_com t u
 have ta2:=fun u=>ta_seen t u
 generalize isPg r m zs=bb at *
 cases bb with
 | true=>
  have FIN:=hid (fun w4 b4=>(H4.out w4 b4).1 rfl)
  clear H4
  go_wp2
  exact FIN.out _ ((Below.refl _ _).alloc (Nat.le_refl _) _)
 | false=>
  have FIN:=hid (fun w4 b4=>(H4.out w4 b4).2 rfl)
  clear H4
  go_wp2
  exact FIN.out _ ((Below.refl _ _).alloc (Nat.le_refl _) _)
open Go.RowKit
def Vwb (w:World) (g:Nat) (a b c d:Value):Prop:=w.heap[g]?=some (.cells #[a,b,c,d] 103 (0,0))
theorem Vwb.cell{g:Nat}{a b c d:Value}(h:Vwb w g a b c d)(i:Nat):w.cell? ⟨g,i,none⟩=#[a,b,c,d][i]?:=by
 unfold Vwb at h
 simp[World.cell?,h]
theorem Vwb.frozen{g:Nat}{a b c d:Value}(h:Vwb w g a b c d)(i:Nat):w.frozen? ⟨g,i,none⟩=false:=by
 unfold Vwb at h
 simp[World.frozen?,h]
theorem Vwb.set{g:Nat}{a b c d:Value}(h:Vwb w g a b c d)(a' b' c' d':Value):Vwb ((((w.setCell ⟨g,0,none⟩ a').setCell ⟨g,1,none⟩ b').setCell ⟨g,2,none⟩ c').setCell ⟨g,3,none⟩ d') g a' b' c' d':=by
 unfold Vwb at *
 simp only[World.setCell,Array.getElem?_modify]
 simp[h]
def LkC (w:World) (x f r st t:Nat) (PO:Ending->World->Prop):Prop :=
 ∀w0,w0=w.alloc (.cells #[.pointer none,.int .i64 0,.int .i64 0,.pointer none] 103)->w0.cell? ⟨x,2,none⟩=some (.pointer (some ⟨st,0,none⟩))/\Calls Tryz.prog 93 #[.pointer (some ⟨st,0,none⟩),.pointer (some ⟨t,0,none⟩)] w0 fun e w1=>e=.returned (.int .i64 0) /\
  ∀w2,w2=(w1.alloc (.cells #[.pointer (some ⟨t,0,none⟩)] 101)).drew->(w2.cell? ⟨x,0,none⟩=some (.int .i64 (f:Int))/\w2.cell? ⟨x,1,none⟩=some (.int .i64 (r:Int))/\w2.cell? ⟨w1.heap.size,0,none⟩=some (.pointer (some ⟨t,0,none⟩)))/\Calls Tryz.prog 87 #[.agg #[.int .i64 (f:Int),.int .i64 (r:Int)],.iface 101 (.agg #[.pointer (some ⟨t,0,none⟩)]),.int .i64 0] w2 fun e w3=>∃g cp,e=.returned (.tuple #[.slice (some ⟨g,0,none⟩) 512 cp,.int .i64 0])/\(w3.cell? ⟨x,0,none⟩=some (.int .i64 (f:Int))/\w3.cell? ⟨x,1,none⟩=some (.int .i64 (r:Int))/\w3.cell? ⟨w1.heap.size,0,none⟩=some (.pointer (some ⟨t,0,none⟩)))/\Calls Tryz.prog 94 #[.slice (some ⟨g,0,none⟩) 512 cp] w3 fun e w4=>∃sz lf:Int,e=.returned (.agg #[.int .i64 sz,.int .i64 lf])/\(¬sz<1/\¬(r:Int)<sz) /\
   ∀w5,w5=(w4.alloc (.cells #[.int .i64 sz,.int .i64 lf] 99)).drew->(w5.cell? ⟨x,1,none⟩=some (.int .i64 (r:Int))/\w5.cell? ⟨w4.heap.size,0,none⟩=some (.int .i64 sz)/\w5.cell? ⟨w4.heap.size,1,none⟩=some (.int .i64 lf)/\w5.cell? ⟨w1.heap.size,0,none⟩=some (.pointer (some ⟨t,0,none⟩)))/\Vwb w5 w.heap.size (.pointer none) (.int .i64 0) (.int .i64 0) (.pointer none)/\PO (.returned (.tuple #[.agg #[.pointer (some ⟨x,0,none⟩),.int .i64 sz,.int .i64 lf,.pointer (some ⟨t,0,none⟩)],.int .i64 0])) ((((w5.setCell ⟨w.heap.size,0,none⟩ (.pointer (some ⟨x,0,none⟩))).setCell ⟨w.heap.size,1,none⟩ (.int .i64 sz)).setCell ⟨w.heap.size,2,none⟩ (.int .i64 lf)).setCell ⟨w.heap.size,3,none⟩ (.pointer (some ⟨t,0,none⟩)))
theorem look_walk{st:Nat}(H:LkC w x f r st t PO):Calls Tryz.prog 50 #[.pointer (some ⟨x,0,none⟩),.pointer (some ⟨t,0,none⟩)] w PO:=by
 obtain⟨w0,hw0⟩:∃w0,w0=w.alloc (.cells #[.pointer none,.int .i64 0,.int .i64 0,.pointer none] 103):=⟨_,rfl⟩
 have HW:=hid hw0
 obtain⟨k2,h1⟩:=H w0 hw0
 have H1:=hid h1
 rw[hw0]at k2
 clear H h1 hw0
 go_enter Tryz.func50,Tryz.ntmps50
 go_wp2_with fail
 rw[<- HW.out]
 refine Calls.mono H1.out ?_
 rintro e w1 ⟨rfl,h2⟩
 obtain⟨w2,hw2⟩:∃w2,w2=(w1.alloc (.cells #[.pointer (some ⟨t,0,none⟩)] 101)).drew:=⟨_,rfl⟩
 obtain⟨kS,h3⟩:=h2 w2 hw2
 have H3:=hid h3
 have HW2:=hid hw2
 rw[hw2]at kS
 clear h2 h3 hw2 H1 k2 HW
 go_wp2_with fail
 refine Gz (S:=fun w'=>w'.cell? ⟨x,0,none⟩=some (.int .i64 (f:Int))/\w'.cell? ⟨x,1,none⟩=some (.int .i64 (r:Int))/\w'.cell? ⟨w1.heap.size,0,none⟩=some (.pointer (some ⟨t,0,none⟩))) kS (fun hSS=>?_)
 refine Ti 0 rfl ?_
 refine Ti 1 rfl ?_
 refine Ti 2 rfl ?_
 refine Ti 3 rfl ?_
 refine Ti 4 rfl ?_
 refine Ti 5 rfl ?_
 try simp only[Act.put,zA,zB,zC]
 refine Ri 6 rfl (fun K9 hK9=>?_)
 go_simp
 go_at_call 87
 rw[<- HW2.out]
 refine Calls.mono H3.out ?_
 rintro e w3 ⟨g,cp,rfl,hk3,h4⟩
 have H4:=hid h4
 clear h4 H3 HW2
 refine hK9.out _ _ hk3 (fun hSS=>?_)
 try simp only[Act.put,zA,zB,zC]
 refine Ti 7 rfl ?_
 try simp only[Act.put,zA,zB,zC]
 refine Ti 8 rfl ?_
 refine Ti 9 rfl ?_
 refine Ti 10 rfl ?_
 refine Ti 11 rfl ?_
 try simp only[Act.put,zA,zB,zC]
 refine Dn ?_
 clear hSS
 go_wp2_with fail
 refine Calls.mono H4.out ?_
 rintro e w4 ⟨sz,lf,rfl,⟨hz1,hz2⟩,h5⟩
 obtain⟨w5,hw5⟩:∃w5,w5=(w4.alloc (.cells #[.int .i64 sz,.int .i64 lf] 99)).drew:=⟨_,rfl⟩
 obtain⟨kT,hv,h6⟩:=h5 w5 hw5
 have HF:=hid h6
 have HV:=hid hv
 have HW5:=hid hw5
 rw[hw5]at kT
 clear h5 h6 hw5 H4 hv kS
 go_wp2_with fail
 refine Gz (S:=fun w'=>w'.cell? ⟨x,1,none⟩=some (.int .i64 (r:Int))/\w'.cell? ⟨w4.heap.size,0,none⟩=some (.int .i64 sz)/\w'.cell? ⟨w4.heap.size,1,none⟩=some (.int .i64 lf)/\w'.cell? ⟨w1.heap.size,0,none⟩=some (.pointer (some ⟨t,0,none⟩))) kT (fun hSS=>?_)
 refine Ti 0 rfl ?_
 refine Ti 1 rfl ?_
 try simp only[Act.put,zA,zB,zC]
 refine wpAnyH_take (i:=2) (oi:=({ dst:=some 44,op:=Op.binOp BinOp.lss 3 (Operand.tmp 43) (Operand.const (Value.int IntKind.i64 1)) 3,type:=4,pos:=_,after:=_,guard:=none }:Oper)) (v:=.bool false) rfl (by kernel_rfl) (by kernel_rfl) (by kernel_rfl) (fun _ _ _ h=>h) (Or.inl ⟨by rfl,?_⟩) hSS ?_
 ·intro w9 hSw
  (try dsimp only at hSw)
  (try go_split_ands)
  first | (go_simp;done) | (go_simp;simp[hz1];done)
 try simp only[Act.put,zA,zB,zC]
 refine Ti 3 rfl ?_
 refine Ti 4 rfl ?_
 try simp only[Act.put,zA,zB,zC]
 refine Ti 5 rfl ?_
 refine Ti 6 rfl ?_
 refine Ti 7 rfl ?_
 refine Ti 8 rfl ?_
 refine Ti 9 rfl ?_
 refine Ti 10 rfl ?_
 try simp only[Act.put,zA,zB,zC]
 refine wpAnyH_take (i:=11) (oi:=({ dst:=some 53,op:=Op.binOp BinOp.gtr 3 (Operand.tmp 47) (Operand.tmp 52) 3,type:=4,pos:=_,after:=_,guard:=some (3,false) }:Oper)) (v:=.bool false) rfl (by kernel_rfl) (by kernel_rfl) (by kernel_rfl) (fun _ _ _ h=>h) (Or.inl ⟨by rfl,?_⟩) hSS ?_
 ·intro w9 hSw
  (try dsimp only at hSw)
  (try go_split_ands)
  first | (go_simp;done) | (go_simp;simp[hz2];done)
 try simp only[Act.put,zA,zB,zC]
 refine Ti 12 rfl ?_
 try simp only[Act.put,zA,zB,zC]
 refine Dn ?_
 clear hSS
 rw[<- HW5.out]at kT ⊢
 obtain⟨a0,a1,a2,a3⟩:=kT
 have b0:=HV.out.cell 0
 have b1:=HV.out.cell 1
 have b2:=HV.out.cell 2
 have b3:=HV.out.cell 3
 have f0:=HV.out.frozen 0
 have f1:=HV.out.frozen 1
 have f2:=HV.out.frozen 2
 have f3:=HV.out.frozen 3
 simp only[List.getElem?_toArray,List.getElem?_cons_zero,List.getElem?_cons_succ]at b0 b1 b2 b3
 clear HW5
 go_wp2
 (try simp only[Exit.inBlock,Exit.then])
 exact bodyPost_ret (results_row_tmp rfl _ _ w.heap.size 103 #[.pointer (some ⟨x,0,none⟩),.int .i64 sz,.int .i64 lf,.pointer (some ⟨t,0,none⟩)] (0,0) _ (.int .i64 0) rfl rfl (HV.out.set _ _ _ _) Tryz.underlying103 rfl (by kernel_rfl)) rfl HF.out
open Go.RowKit Go.Deep
def Spb (w:World) (x f r st:Nat):Prop:=w.heap[x]?=some (.cells #[.int .i64 (f:Int),.int .i64 (r:Int),.pointer (some ⟨st,0,none⟩)] 95 (0,0))
theorem Spb.lt{st:Nat}(h:Spb w x f r st):x<w.heap.size:=(Array.getElem?_eq_some_iff.1 h).1
theorem Spb.keep{st:Nat}(h:Spb w x f r st)(hk:w'.heap[x]?=w.heap[x]?):Spb w' x f r st:=hk.trans h
theorem Spb.cell{st:Nat}(h:Spb w x f r st)(i:Nat):w.cell? ⟨x,i,none⟩=#[.int .i64 (f:Int),.int .i64 (r:Int),.pointer (some ⟨st,0,none⟩)][i]?:=by
 unfold Spb at h
 simp[World.cell?,h]
theorem Below.drew1(w:World):Below w.heap.size w w.drew:=(Below.refl w.heap.size w).drew
def LkP (Y:Nat->Prop) (w:World) (x t:Nat) (zs:List Int) (X:(Nat->Prop)->World->Prop) (e:Ending) (w':World):Prop :=
 ∃Y',e=.returned (.tuple #[.agg #[.pointer (some ⟨x,0,none⟩),.int .i64 (szOf zs),.int .i64 (lfOf zs),.pointer (some ⟨t,0,none⟩)],.int .i64 0])/\X Y' w'/\Gr Y Y' w/\But Y w w'
theorem Opn.look{F:Cf}(h:Opn Y w F K N C t L Ms n)(hK:K<4611686018427387904)(hx:Spb w x f r F.st)(hY:¬Y x)(hr:r<=262144)(hf1:64<=f)(hf2:f<F.nb)(hp:isPg r 0 ((L f).getD (C f))=true)(hs1:1<=szOf ((L f).getD (C f)))(hs2:szOf ((L f).getD (C f))<=r) :
  Calls Tryz.prog 50 #[.pointer (some ⟨x,0,none⟩),.pointer (some ⟨t,0,none⟩)] w (LkP Y w x t ((L f).getD (C f)) (fun Y' w'=>Opn Y' w' F (K+1) N C t L Ms n)):=by
 obtain⟨zs,hzs⟩:∃zs,zs=(L f).getD (C f):=⟨_,rfl⟩
 rw[<- hzs]at hp hs1 hs2 ⊢
 refine look_walk (f:=f) (r:=r) (st:=F.st) (fun w0 hw0=>?_)
 have hxl:=hx.lt
 have hlt:=h.lt
 have z0:w0.heap.size=w.heap.size+1:=by rw[hw0];simp
 have b0:Below w.heap.size w w0:=by rw[hw0];exact (Below.refl _ _).alloc (Nat.le_refl _) _
 have hv0:Vwb w0 w.heap.size (.pointer none) (.int .i64 0) (.int .i64 0) (.pointer none):=by rw[hw0];exact Array.getElem?_push_size
 have hx0:Spb w0 x f r F.st:=hx.keep (b0.block x hxl)
 refine⟨hx0.cell 2,Calls.mono (h.below b0).owns ?_⟩
 rintro e w1 ⟨rfl,b1⟩
 refine⟨rfl,fun w2 hw2=>?_⟩
 have s1:=b1.size
 have z2:w2.heap.size=w1.heap.size+1:=by rw[hw2];simp
 have b2:Below w1.heap.size w1 w2:=by rw[hw2];exact ((Below.refl _ _).alloc (Nat.le_refl _) _).drew
 have b02:Below w.heap.size w w2:=b0.trans ((b1.trans (b2.mono s1)).mono (by omega))
 have hx2:Spb w2 x f r F.st:=hx.keep (b02.block x hxl)
 have ht2:w2.heap[w1.heap.size]?=some (.cells #[.pointer (some ⟨t,0,none⟩)] 101 (0,0)):=by rw[hw2];exact Array.getElem?_push_size
 have hv2:Vwb w2 w.heap.size (.pointer none) (.int .i64 0) (.int .i64 0) (.pointer none):=((b2.block _ (by omega)).trans (b1.block _ (by omega))).trans hv0
 refine⟨⟨hx2.cell 0,hx2.cell 1,by simp[World.cell?,ht2]⟩,?_⟩
 refine Calls.mono ((h.below b02).pageS hK f r 0 hr (by omega) hf1 hf2) ?_
 rintro e w3 ⟨Y3,k1,k2,_,k4,k5⟩
 rw[Nat.add_zero,<- hzs]at k2
 obtain⟨g,cp,rfl,k6,k7,k8,k9⟩:=k2 hp
 have s3:=k5.size
 have keep3:∀k,k<w2.heap.size->w.heap.size<=k->w3.heap[k]?=w2.heap[k]?:=fun k a b=>k5.block k a (fun q=>by have:=hlt _ q;omega)
 have hx3:Spb w3 x f r F.st:=hx2.keep (k5.block x hx2.lt hY)
 have ht3:=(keep3 w1.heap.size (by omega) (by omega)).trans ht2
 have hv3:Vwb w3 w.heap.size (.pointer none) (.int .i64 0) (.int .i64 0) (.pointer none):=(keep3 w.heap.size (by omega) (by omega)).trans hv2
 refine⟨g,cp,rfl,⟨hx3.cell 0,hx3.cell 1,by simp[World.cell?,ht3]⟩,?_⟩
 refine Calls.mono (shead_any k7 k8) ?_
 rintro e w4 ⟨rfl,b4⟩
 refine⟨_,_,rfl,⟨by omega,by omega⟩,fun w5 hw5=>?_⟩
 have s4:=b4.size
 have z5:w5.heap.size=w4.heap.size+1:=by rw[hw5];simp
 have b5:Below w4.heap.size w4 w5:=by rw[hw5];exact ((Below.refl _ _).alloc (Nat.le_refl _) _).drew
 have b35:Below w3.heap.size w3 w5:=b4.trans (b5.mono s4)
 have hx5:Spb w5 x f r F.st:=hx3.keep (b35.block x hx3.lt)
 have hh5:w5.heap[w4.heap.size]?=some (.cells #[.int .i64 (szOf zs),.int .i64 (lfOf zs)] 99 (0,0)):=by rw[hw5];exact Array.getElem?_push_size
 have ht5:=(b35.block w1.heap.size (by omega)).trans ht3
 have hv5:Vwb w5 w.heap.size (.pointer none) (.int .i64 0) (.int .i64 0) (.pointer none):=(b35.block w.heap.size (by omega)).trans hv3
 refine⟨⟨hx5.cell 1,by simp[World.cell?,hh5],by simp[World.cell?,hh5],by simp[World.cell?,ht5]⟩,hv5,?_⟩
 have b56:But (fun k=>k=w.heap.size) w5 ((((w5.setCell ⟨w.heap.size,0,none⟩ (.pointer (some ⟨x,0,none⟩))).setCell ⟨w.heap.size,1,none⟩ (.int .i64 (szOf zs))).setCell ⟨w.heap.size,2,none⟩ (.int .i64 (lfOf zs))).setCell ⟨w.heap.size,3,none⟩ (.pointer (some ⟨t,0,none⟩))):=((((But.refl (fun k=>k=w.heap.size) w5).setCell (p:=⟨w.heap.size,0,none⟩) rfl _).setCell (p:=⟨w.heap.size,1,none⟩) rfl _).setCell (p:=⟨w.heap.size,2,none⟩) rfl _).setCell (p:=⟨w.heap.size,3,none⟩) rfl _
 have g3:Gr Y Y3 w:=fun k hk q=>k4 k (by omega) q
 have hY3:¬Y3 w.heap.size:=fun q=>by
  have:=hlt _ (k4 _ (by omega) q)
  omega
 refine⟨Y3,rfl,(k1.below b35).keep b56 (fun k _ e1 e2=>hY3 (e1 ▸ e2)),g3,?_⟩
 have bb:But Y w w3:=(But.of_below b02 (X:=Y)).trans k5
 exact (bb.comp (But.of_below b35 (X:=fun _=>False)) (fun _ _ q=>q.elim)).comp b56 (fun k hk q=>by omega)
theorem Opn.size{F:Cf}(h:Opn Y w F K N C t L Ms n)(hK:K<4611686018427387904)(hx:Spb w x f r F.st)(hY:¬Y x)(hr:r<=262144)(hf1:64<=f)(hf2:f<F.nb)(hp:isPg r 0 ((L f).getD (C f))=true)(hs1:1<=szOf ((L f).getD (C f)))(hs2:szOf ((L f).getD (C f))<=r) :
  Calls Tryz.prog 19 #[.pointer (some ⟨x,0,none⟩),.pointer (some ⟨t,0,none⟩)] w fun e w'=>∃Y',e=.returned (.tuple #[.int .i64 (szOf ((L f).getD (C f))),.int .i64 0])/\Opn Y' w' F (K+1) N C t L Ms n/\Gr Y Y' w/\But Y w w':=by
 have H:=hid (h.look hK hx hY hr hf1 hf2 hp hs1 hs2)
 generalize (L f).getD (C f)=zs at *
 clear h hx hp hs1 hs2
 refine poz fun PO hPO=>?_
 have HF:Hid (∀Y' w',Opn Y' w' F (K+1) N C t L Ms n->Gr Y Y' w->But Y w w'->PO (.returned (.tuple #[.int .i64 (szOf zs),.int .i64 0])) (w'.alloc (.cells #[.pointer (some ⟨x,0,none⟩),.int .i64 (szOf zs),.int .i64 (lfOf zs),.pointer (some ⟨t,0,none⟩)] 103))):=fun Y' w' a b c=>by
  rw[hPO]
  have ba:Below w'.heap.size w' (w'.alloc (.cells #[.pointer (some ⟨x,0,none⟩),.int .i64 (szOf zs),.int .i64 (lfOf zs),.pointer (some ⟨t,0,none⟩)] 103)):=(Below.refl _ _).alloc (Nat.le_refl _) _
  exact⟨Y',rfl,a.below ba,b,c.comp (But.of_below ba (X:=fun _=>False)) (fun _ _ q=>q.elim)⟩
 clear hPO
 go_enter Tryz.func19,Tryz.ntmps19
 go_wp2_with fail
 refine Calls.mono H.out ?_
 rintro e w1 ⟨Y',rfl,q1,q2,q3⟩
 have FIN:=hid (HF.out Y' w1 q1 q2 q3)
 clear q1 q2 q3 H HF
 go_wp2
 exact FIN.out
end Go.Proofs.YtlefjidbpjkhlaaGreat
