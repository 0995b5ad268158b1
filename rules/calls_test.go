package rules

import (
	"donjon/aes"
	"donjon/api"
	"donjon/caps"
	"donjon/chain"
	"donjon/commit"
	"donjon/ctr"
	"donjon/disk"
	"donjon/galois"
	"donjon/gcm"
	"donjon/ghash"
	"donjon/graft"
	"donjon/hier"
	"donjon/ideal"
	"donjon/meta"
	"donjon/octet"
	"donjon/pack"
	"donjon/pager"
	"donjon/play"
	"donjon/quota"
	"donjon/regs"
	"donjon/revive"
	"donjon/roll"
	"donjon/runs"
	"donjon/scan"
	"donjon/seal"
	"donjon/slot"
	"donjon/sound"
	"donjon/tree"
	"donjon/vault"
	"donjon/witness"
)

// The calls that the chapters list, with just these signatures: where one is missing or another one, this does not build.
var (
	// 01-octet.md
	_ func(n uint64, size int) ([]byte, api.Errno)   = octet.Put
	_ func(b []byte) (uint64, api.Errno)             = octet.Get
	_ func(a, b []byte) ([]byte, api.Errno)          = octet.Xor
	_ func(a, b []byte) bool                         = octet.Same
	_ func(b []byte) bool                            = octet.Nought
	_ func(b []byte) string                          = octet.Hex
	_ func(s string) (b []byte, e api.Errno, at int) = octet.Unhex

	// 02-galois.md
	_ func(a, b byte) byte        = galois.Mul
	_ func(a byte) byte           = galois.Inv
	_ func(a byte, n uint32) byte = galois.Power
	_ func(a byte) byte           = galois.Sub
	_ func(a byte) byte           = galois.Back
	_ func(c [4]byte) [4]byte     = galois.Mix
	_ func(c [4]byte) [4]byte     = galois.Unmix

	// 03-aes.md
	_ func(key []byte) ([][4]byte, api.Errno)               = aes.Words
	_ func(key []byte) (*aes.Cipher, api.Errno)             = aes.New
	_ func(c *aes.Cipher, b [16]byte) ([16]byte, api.Errno) = (*aes.Cipher).Encrypt
	_ func(c *aes.Cipher, b [16]byte) ([16]byte, api.Errno) = (*aes.Cipher).Decrypt

	// 04-ghash.md
	_ func(x, y [16]byte) [16]byte                = ghash.Mul
	_ func(h [16]byte, aad, text []byte) [16]byte = ghash.Sum

	// 05-ctr.md
	_ func(nonce []byte) ([16]byte, api.Errno)          = ctr.First
	_ func(c [16]byte) [16]byte                         = ctr.Next
	_ func(key, nonce, text []byte) ([]byte, api.Errno) = ctr.Crypt

	// 06-gcm.md
	_ func(key, nonce, aad, text []byte) ([]byte, api.Errno)   = gcm.Seal
	_ func(key, nonce, aad, sealed []byte) ([]byte, api.Errno) = gcm.Open

	// 07-pack.md
	_ func(n uint64) []byte                    = pack.Num
	_ func(b []byte) []byte                    = pack.Text
	_ func(b []byte) *pack.Reader              = pack.NewReader
	_ func(*pack.Reader) uint64                = (*pack.Reader).Num
	_ func(*pack.Reader) byte                  = (*pack.Reader).Byte
	_ func(r *pack.Reader, most int) []byte    = (*pack.Reader).Text
	_ func(*pack.Reader) int                   = (*pack.Reader).Left
	_ func(*pack.Reader) (e api.Errno, at int) = (*pack.Reader).Done

	// 08-disk.md
	_ func(blocks int) (*disk.Disk, api.Errno)          = disk.New
	_ func(*disk.Disk) int                              = (*disk.Disk).Blocks
	_ func(d *disk.Disk, i int) ([]byte, api.Errno)     = (*disk.Disk).Read
	_ func(d *disk.Disk, i int, b []byte) api.Errno     = (*disk.Disk).Write
	_ func(*disk.Disk) api.Errno                        = (*disk.Disk).Sync
	_ func(*disk.Disk) api.Errno                        = (*disk.Disk).Step
	_ func(*disk.Disk) uint64                           = (*disk.Disk).Steps
	_ func(d *disk.Disk, n int)                         = (*disk.Disk).Fail
	_ func(d *disk.Disk, n int)                         = (*disk.Disk).Cut
	_ func(d *disk.Disk, masks []uint8) api.Errno       = (*disk.Disk).Crash
	_ func(d *disk.Disk, i, at int, b []byte) api.Errno = (*disk.Disk).Foreign
	_ func(d *disk.Disk, i int) ([]byte, api.Errno)     = (*disk.Disk).Firm
	_ func(*disk.Disk) int                              = (*disk.Disk).Waiting
	_ func(*disk.Disk) bool                             = (*disk.Disk).Down
	_ func(*disk.Disk) *disk.Disk                       = (*disk.Disk).Fork

	// 09-regs.md
	_ func(d *disk.Disk, limit uint64, draws [][]byte) (*regs.Regs, api.Errno) = regs.New
	_ func(*regs.Regs) uint64                                                  = (*regs.Regs).Reserved
	_ func(*regs.Regs) uint64                                                  = (*regs.Regs).Committed
	_ func(*regs.Regs) (uint64, api.Errno)                                     = (*regs.Regs).Reserve
	_ func(r *regs.Regs, n uint64) api.Errno                                   = (*regs.Regs).Advance
	_ func(r *regs.Regs, size int) ([]byte, api.Errno)                         = (*regs.Regs).Draw
	_ func(*regs.Regs) int                                                     = (*regs.Regs).Left

	// 10-seal.md
	_ func(l api.Label) []byte                                                       = seal.HeadOf
	_ func(l api.Label) []byte                                                       = seal.NonceOf
	_ func(l api.Label) []byte                                                       = seal.AadOf
	_ func(key []byte, l api.Label, payload []byte) ([]byte, api.Errno)              = seal.Seal
	_ func(key []byte, l api.Label, block []byte) ([]byte, api.Errno)                = seal.Open
	_ func(block []byte) (kind, level uint8, gen uint16, commit uint64, e api.Errno) = seal.Told
	_ func() *seal.Ring                                                              = seal.NewRing
	_ func(r *seal.Ring, tenant uint32, gen uint16, key []byte) api.Errno            = (*seal.Ring).Add
	_ func(r *seal.Ring, tenant uint32, gen uint16) ([]byte, api.Errno)              = (*seal.Ring).Key
	_ func(r *seal.Ring, tenant uint32) (uint16, api.Errno)                          = (*seal.Ring).Newest
	_ func(r *seal.Ring, tenant uint32, gen uint16) api.Errno                        = (*seal.Ring).Drop
	_ func(r *seal.Ring, tenant uint32) []uint16                                     = (*seal.Ring).Gens
	_ func() *seal.Log                                                               = seal.NewLog
	_ func(g *seal.Log, key []byte, l api.Label, payload []byte) ([]byte, api.Errno) = (*seal.Log).Seal
	_ func(g *seal.Log, block []byte) bool                                           = (*seal.Log).Has
	_ func(g *seal.Log, l api.Label, block []byte) bool                              = (*seal.Log).Knows
	_ func(*seal.Log) int                                                            = (*seal.Log).Count
	_ func(*seal.Log) []api.Label                                                    = (*seal.Log).Twice

	// 11-runs.md
	_ func(from, to uint32) []api.Run                           = runs.Make
	_ func(l []api.Run) bool                                    = runs.Right
	_ func(l []api.Run) (uint64, api.Errno)                     = runs.Count
	_ func(l []api.Run, p uint32) (bool, api.Errno)             = runs.Has
	_ func(l []api.Run) (p uint32, rest []api.Run, e api.Errno) = runs.Take
	_ func(l []api.Run, p uint32) ([]api.Run, api.Errno)        = runs.Give
	_ func(l []api.Run, p uint32) ([]api.Run, api.Errno)        = runs.Drop
	_ func(a, b []api.Run) ([]api.Run, api.Errno)               = runs.Both
	_ func(l []api.Run, most int) ([]uint32, api.Errno)         = runs.Pages
	_ func(l []api.Run) ([]byte, api.Errno)                     = runs.Encode
	_ func(b []byte) (l []api.Run, e api.Errno, at int)         = runs.Decode

	// 12-slot.md
	_ func(n api.Node) api.Errno                       = slot.Right
	_ func(n api.Node) (int, api.Errno)                = slot.Size
	_ func(n api.Node) ([]byte, api.Errno)             = slot.Encode
	_ func(b []byte) (n api.Node, e api.Errno, at int) = slot.Decode
	_ func(a, b api.Node) bool                         = slot.Same

	// 13-chain.md
	_ func(n int) (int, api.Errno)                                   = chain.Pieces
	_ func(v []byte) ([][]byte, api.Errno)                           = chain.Cut
	_ func(piece []byte, next api.Ref) ([]byte, api.Errno)           = chain.Page
	_ func(payload []byte) (piece []byte, next api.Ref, e api.Errno) = chain.Read
	_ func(pieces [][]byte, length int) ([]byte, api.Errno)          = chain.Join

	// 14-graft.md
	_ func(n api.Node, key []byte) (at int, found bool)                          = graft.Find
	_ func(n api.Node, key []byte) int                                           = graft.Child
	_ func(n api.Node, at int, x api.Entry) (api.Node, api.Errno)                = graft.With
	_ func(n api.Node, at int) (api.Node, api.Errno)                             = graft.Without
	_ func(n api.Node) (a, b api.Node, above []byte, e api.Errno)                = graft.Split
	_ func(a, b api.Node, above []byte) (n api.Node, fits bool)                  = graft.Join
	_ func(a, b api.Node, above []byte) (c, d api.Node, now []byte, e api.Errno) = graft.Even
	_ func(n api.Node) bool                                                      = graft.Low

	// 15-tree.md
	_ func(gen uint16) *tree.Mem                                                                     = tree.NewMem
	_ func(m *tree.Mem, commit uint64, gen uint16) api.Errno                                         = (*tree.Mem).Begin
	_ func(m *tree.Mem, tenant uint32, kind, level uint8, r api.Ref) ([]byte, api.Errno)             = (*tree.Mem).Get
	_ func(m *tree.Mem, tenant uint32, kind, level uint8, payload []byte) (api.Ref, api.Errno)       = (*tree.Mem).Put
	_ func(m *tree.Mem, r api.Ref) api.Errno                                                         = (*tree.Mem).Drop
	_ func(*tree.Mem) api.Errno                                                                      = (*tree.Mem).Scrub
	_ func(*tree.Mem) []api.Ref                                                                      = (*tree.Mem).Pages
	_ func(*tree.Mem) []api.Ref                                                                      = (*tree.Mem).Waiting
	_ func(s api.Source, tenant uint32, t api.Root, key []byte) ([]byte, api.Errno)                  = tree.Get
	_ func(s api.Source, tenant uint32, t api.Root, ops []api.Op) (api.Root, api.Errno)              = tree.Apply
	_ func(s api.Source, tenant uint32, t api.Root) ([]api.Label, api.Errno)                         = tree.Labels
	_ func(s api.Source, tenant uint32, t api.Root, gen uint16, most int) (api.Root, int, api.Errno) = tree.Turn
	_ func(s api.Source, tenant uint32, t api.Root) api.Errno                                        = tree.Clear

	// 16-scan.md
	_ func(s api.Source, tenant uint32, t api.Root) (*scan.Cursor, api.Errno)                                     = scan.Open
	_ func(c *scan.Cursor, key []byte) api.Errno                                                                  = (*scan.Cursor).Seek
	_ func(*scan.Cursor) api.Errno                                                                                = (*scan.Cursor).End
	_ func(*scan.Cursor) (api.Pair, api.Errno)                                                                    = (*scan.Cursor).Next
	_ func(*scan.Cursor) (api.Pair, api.Errno)                                                                    = (*scan.Cursor).Prev
	_ func(s api.Source, tenant uint32, t api.Root, from, to []byte, most int, back bool) ([]api.Pair, api.Errno) = scan.Range
	_ func(s api.Source, tenant uint32, t api.Root) (int, api.Errno)                                              = scan.Count

	// 17-sound.md
	_ func(s api.Source, tenant uint32, t api.Root) (api.Report, api.Errno) = sound.Check

	// 18-meta.md
	_ func(m api.MetaPage) api.Errno                                       = meta.Right
	_ func(m api.MetaPage) ([]byte, api.Errno)                             = meta.Encode
	_ func(b []byte) (m api.MetaPage, e api.Errno, at int)                 = meta.Decode
	_ func(m api.MetaPage) api.Label                                       = meta.LabelOf
	_ func(r *seal.Ring, g *seal.Log, m api.MetaPage) ([]byte, api.Errno)  = meta.Seal
	_ func(r *seal.Ring, slot int, block []byte) (api.MetaPage, api.Errno) = meta.Open

	// 19-pager.md
	_ func(d *disk.Disk, r *seal.Ring, g *seal.Log, free []api.Run) (*pager.Pager, api.Errno)     = pager.New
	_ func(p *pager.Pager, tenant uint32, kind, level uint8, r api.Ref) ([]byte, api.Errno)       = (*pager.Pager).Get
	_ func(p *pager.Pager, commit uint64) api.Errno                                               = (*pager.Pager).Begin
	_ func(p *pager.Pager, tenant uint32, kind, level uint8, payload []byte) (api.Ref, api.Errno) = (*pager.Pager).Put
	_ func(p *pager.Pager, r api.Ref) api.Errno                                                   = (*pager.Pager).Drop
	_ func(*pager.Pager) api.Errno                                                                = (*pager.Pager).Flush
	_ func(p *pager.Pager, m api.MetaPage) api.Errno                                              = (*pager.Pager).Meta
	_ func(*pager.Pager) api.Errno                                                                = (*pager.Pager).Scrub
	_ func(*pager.Pager) api.Errno                                                                = (*pager.Pager).Undo
	_ func(p *pager.Pager, r api.Ref) api.Errno                                                   = (*pager.Pager).Pin
	_ func(p *pager.Pager, r api.Ref) api.Errno                                                   = (*pager.Pager).Unpin
	_ func(p *pager.Pager, reached []api.Ref) api.Errno                                           = (*pager.Pager).Sweep
	_ func(*pager.Pager)                                                                          = (*pager.Pager).Fail
	_ func(*pager.Pager) bool                                                                     = (*pager.Pager).Failed
	_ func(*pager.Pager) (n uint64, flushed bool)                                                 = (*pager.Pager).Commit
	_ func(*pager.Pager) uint64                                                                   = (*pager.Pager).Last
	_ func(p *pager.Pager, tenant uint32) int                                                     = (*pager.Pager).Used
	_ func(*pager.Pager) []api.Run                                                                = (*pager.Pager).Free

	// 20-commit.md
	_ func(p *pager.Pager, r *regs.Regs) (uint64, api.Errno)       = commit.Start
	_ func(p *pager.Pager, r *regs.Regs, m api.MetaPage) api.Errno = commit.Finish

	// 21-revive.md
	_ func(d *disk.Disk, r *regs.Regs, ring *seal.Ring) (api.MetaPage, api.Errno) = revive.Open
	_ func(blocks int, reached []api.Ref) ([]api.Run, api.Errno)                  = revive.Free

	// 22-hier.md
	_ func(key []byte, gen uint16) ([]byte, api.Errno)                                              = hier.Root
	_ func(root []byte, gen uint16) ([]byte, api.Errno)                                             = hier.Wrapper
	_ func(key, secret []byte) ([]byte, api.Errno)                                                  = hier.Mark
	_ func(root []byte, tenant uint32, gen uint16, commit uint64, key []byte) (api.Held, api.Errno) = hier.Wrap
	_ func(root []byte, tenant uint32, h api.Held) ([]byte, api.Errno)                              = hier.Unwrap

	// 23-roll.md
	_ func(x api.Seat) bool                                               = roll.May
	_ func(x api.Seat) ([]byte, api.Errno)                                = roll.Bytes
	_ func(tenant uint32, b []byte) (api.Seat, api.Errno)                 = roll.Read
	_ func(a, b api.Seat) bool                                            = roll.Same
	_ func(s api.Source, t api.Root, tenant uint32) (api.Seat, api.Errno) = roll.Get
	_ func(s api.Source, t api.Root, x api.Seat) (api.Root, api.Errno)    = roll.With
	_ func(s api.Source, t api.Root, tenant uint32) (api.Root, api.Errno) = roll.Without
	_ func(s api.Source, t api.Root) ([]api.Seat, api.Errno)              = roll.All

	// 24-quota.md
	_ func(n int) (int, api.Errno)                     = quota.Pieces
	_ func(key, value []byte) (int, api.Errno)         = quota.Cost
	_ func(l []api.Pair) (int, api.Errno)              = quota.Charge
	_ func(charge int) (int, api.Errno)                = quota.Pages
	_ func(q int) (int, api.Errno)                     = quota.R
	_ func(n int) (int, api.Errno)                     = quota.D
	_ func(blocks int, quotas []int) (bool, api.Errno) = quota.Fits
	_ func(q, charge int, snaps []int) bool            = quota.Over
	_ func(part, whole int64) uint64                   = quota.Share

	// 25-caps.md
	_ func() *caps.Caps                                              = caps.New
	_ func(*caps.Caps) (uint64, api.Errno)                           = (*caps.Caps).Attach
	_ func(c *caps.Caps, h uint64, r api.Rights) (uint64, api.Errno) = (*caps.Caps).Give
	_ func(c *caps.Caps, h, victim uint64) api.Errno                 = (*caps.Caps).Revoke
	_ func(c *caps.Caps, h uint64, need api.Rights) api.Errno        = (*caps.Caps).Check
	_ func(c *caps.Caps, h uint64) (api.Rights, api.Errno)           = (*caps.Caps).Rights
	_ func(*caps.Caps) []uint64                                      = (*caps.Caps).Alive
	_ func(c *caps.Caps, h, other uint64) bool                       = (*caps.Caps).Below
	_ func(*caps.Caps) api.Errno                                     = (*caps.Caps).Clear
	_ func(*caps.Caps) *caps.Caps                                    = (*caps.Caps).Copy

	// 26-ideal.md
	_ func(blocks int) (*ideal.Ideal, api.Errno)                  = ideal.New
	_ func(s *ideal.Ideal, c api.Call) api.Answer                 = (*ideal.Ideal).Do
	_ func(*ideal.Ideal) api.Errno                                = (*ideal.Ideal).Open
	_ func(s *ideal.Ideal, tenant uint32) ([]api.Pair, api.Errno) = (*ideal.Ideal).Map
	_ func(*ideal.Ideal) *ideal.Ideal                             = (*ideal.Ideal).Copy

	// 27-vault.md
	_ func(c api.Store) (*vault.Vault, api.Errno)         = vault.New
	_ func(v *vault.Vault, c api.Call) api.Answer         = (*vault.Vault).Do
	_ func(*vault.Vault) api.Errno                        = (*vault.Vault).Open
	_ func(*vault.Vault) bool                             = (*vault.Vault).Failed
	_ func(v *vault.Vault, n int) api.Errno               = (*vault.Vault).Fail
	_ func(v *vault.Vault, n int) api.Errno               = (*vault.Vault).Cut
	_ func(v *vault.Vault, masks []uint8) api.Errno       = (*vault.Vault).Crash
	_ func(v *vault.Vault, i, at int, b []byte) api.Errno = (*vault.Vault).Foreign
	_ func(*vault.Vault) uint64                           = (*vault.Vault).Steps
	_ func(*vault.Vault) uint64                           = (*vault.Vault).Reserved
	_ func(*vault.Vault) uint64                           = (*vault.Vault).Committed
	_ func(*vault.Vault) int                              = (*vault.Vault).Blocks
	_ func(v *vault.Vault, i int) ([]byte, api.Errno)     = (*vault.Vault).Firm
	_ func(*vault.Vault) *seal.Log                        = (*vault.Vault).Log
	_ func(v *vault.Vault, tenant uint32) int             = (*vault.Vault).Used
	_ func(*vault.Vault) ([]api.Label, api.Errno)         = (*vault.Vault).Reached
	_ func(v *vault.Vault, tenant uint32) []uint16        = (*vault.Vault).Gens

	// 28-witness.md
	_ func(v *vault.Vault) (api.Sight, api.Errno)                                        = witness.Look
	_ func(g *seal.Log, keys [][]byte, tenants []uint32, page uint32, block []byte) bool = witness.Forged

	// 29-play.md
	_ func(x api.Event) bool                                  = play.May
	_ func(x api.Event) (string, api.Errno)                   = play.Line
	_ func(s string) (api.Event, api.Errno)                   = play.Unline
	_ func(l ...api.Event) (string, api.Errno)                = play.Text
	_ func(text string) ([]api.Event, int, api.Errno)         = play.Parse
	_ func(c api.Store, l ...api.Event) ([]string, api.Errno) = play.Play
)
